package mend_test

import (
	"strconv"
	"strings"
	"testing"

	"grapnel/api"
	"grapnel/block"
	"grapnel/plate"
	"grapnel/vault"
)

// grove is a file system of some directories and files, with holes, tables and names in several places.
func grove(t testing.TB, v *vault.Vault) *plate.Plate {
	t.Helper()
	p := made(t, v, 128)
	f := mounted(t, p, v)
	all(t, f.Mkdir("/d"), f.Mkdir("/d/e"), f.Mkdir("/x"), f.Create("/a"), f.Create("/d/b"), f.Create("/d/e/c"), f.Create("/x/y"), f.Symlink("/d/b", "/s"), f.Symlink("/none", "/d/s"))
	fill(t, f, "/a", 0, 1, 13, 130, 300)
	fill(t, f, "/d/b", 0, 2)
	fill(t, f, "/d/e/c", 5)
	all(t, f.Link("/d/b", "/x/b"), f.Link("/a", "/d/e/a"), f.Sync())
	for i := range 40 {
		all(t, f.Link("/x/y", "/x/y"+strconv.Itoa(i)))
	}
	all(t, f.Remove("/d/s"), f.Create("/d/new"), f.Sync(), f.Mkdir("/last"), f.Leave())
	return p
}

// above is the inodes of the directories above a path.
func above(l []api.Node, path string) []int {
	var inos []int
	for _, n := range l {
		if n.Path == "/" || strings.HasPrefix(path, n.Path+"/") {
			inos = append(inos, n.Stat.Ino)
		}
	}
	return inos
}

// wantSurvived is that each file is there that has nothing of a block that was changed, with its bytes, size and generation; and where it was, if no directory above it has, either. It tells how many were.
func wantSurvived(t testing.TB, was, is []api.Node, harmed int) int {
	t.Helper()
	count := 0
	for _, n := range was {
		if n.Stat.Kind == api.Dir || n.Stat.Ino == harmed {
			continue
		}
		path := n.Path
		for _, ino := range above(was, n.Path) {
			if ino == harmed {
				path = ""
			}
		}
		found := false
		for _, m := range is {
			if m.Stat.Ino == n.Stat.Ino && (path == "" || m.Path == path) {
				found = found || m.Stat.Gen == n.Stat.Gen && m.Stat.Kind == n.Stat.Kind && m.Stat.Size == n.Stat.Size && m.Data == n.Data
			}
		}
		if !found {
			t.Fatalf("a block of the inode %d was changed: %s, %+v, is gone; there is %s", harmed, n.Path, n.Stat, brief(is))
		}
		count++
	}
	return count
}

// G3: each block of the living part is lost, one by one: the other files survive.
func TestSurvivors(t *testing.T) {
	t.Parallel()
	onVaults(t, func(t *testing.T, v *vault.Vault) {
		start := grove(t, v)
		was := wantWhole(t, "whole", start, v)
		count := 0
		for at := range 128 {
			r := block.Load(start, v, at)
			harmed := 0
			if r.Ok && at >= 27 {
				harmed = r.Head.Ino
			}
			for i, harm := range []func(p *plate.Plate){
				func(p *plate.Plate) { overwrite(t, p, at) },
				func(p *plate.Plate) { all(t, p.Spoil(8*at+at%8)) },
				func(p *plate.Plate) { overwrite(t, p, 0, 1, 2, at) },
			} {
				p := start.Copy()
				harm(p)
				repair(t, "lost", p, v)
				is := wantWhole(t, "lost", p, v)
				count += wantSurvived(t, was, is, harmed)
				if harmed == 0 && i < 2 {
					same(t, "nothing of a file was lost", is, was)
				}
			}
		}
		if count < 10000 {
			t.Errorf("%d files survived", count)
		}
	})
}
