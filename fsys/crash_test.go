package fsys

import (
	"slices"
	"testing"

	"dunnage/api"
	"dunnage/crashes"
)

// P8.7 (E1): behind each op of a Commit, with none, all, and some of what waits kept.
func TestCrashWithinACommit(t *testing.T) {
	for _, x := range changes() {
		f := planted(t)
		before, from := told(t, f), f.Disk().Ops()
		wantError(t, x.what, x.do(f), api.OK)
		after := told(t, f)
		if slices.Equal(before, after) {
			t.Fatalf("%s changes nothing", x.what)
		}
		commit(t, f)
		seen := [2]int{}
		for k, left := range crashes.Behind(f.Disk(), from) {
			g := mounted(t, left)
			switch now := told(t, g); {
			case slices.Equal(now, before) && k < f.Disk().Ops():
				seen[0]++
			case slices.Equal(now, after):
				seen[1]++
			default:
				t.Errorf("%s: behind op %d: neither as ahead nor as behind", x.what, k-from)
			}
			wantSound(t, g)
		}
		if seen[0] == 0 || seen[1] == 0 {
			t.Errorf("%s: as ahead and as behind: %v", x.what, seen)
		}
	}
}

// P8.7 (E1): a crash between two Commits leaves the last one, whatever was done behind it; a second crash, within Mount, too.
func TestCrashBetweenCommits(t *testing.T) {
	f := planted(t)
	last := told(t, f)
	for _, x := range ahead() {
		wantError(t, x.what, x.do(f), api.OK)
	}
	left, e := f.Disk().Crash()
	wantError(t, "Crash", e, api.OK)
	if !slices.Equal(told(t, mounted(t, left)), last) {
		t.Error("not as at the last Commit")
	}
	commit(t, f)
	now := told(t, f)
	cut, e := f.Disk().Cut(f.Disk().Ops() - 2) // the pages are home, the head is not written yet
	wantError(t, "Cut", e, api.OK)
	home, e := cut.Crash()
	wantError(t, "Crash", e, api.OK)
	g := mounted(t, home)
	for _, left := range crashes.Behind(g.Disk(), 0) {
		if !slices.Equal(told(t, mounted(t, left)), now) {
			t.Error("behind a crash within Mount: not what was committed")
		}
	}
}

// P8.7: behind a crash the file system goes on.
func TestGoOnBehindACrash(t *testing.T) {
	f := planted(t)
	from := f.Disk().Ops()
	wantError(t, "Remove", f.Remove("/d"), api.OK)
	commit(t, f)
	for _, left := range crashes.Behind(f.Disk(), from) {
		g := mounted(t, left)
		wantError(t, "Write", g.Write("/new", 420, text(3000, 4)...), api.OK)
		wantError(t, "Unlink", g.Unlink("/f"), api.OK)
		commit(t, g)
		h := mounted(t, g.Disk())
		wantBytes(t, h, "/new", text(3000, 4))
		wantGone(t, h, "/f")
		wantSound(t, h)
	}
}
