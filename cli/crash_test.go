package cli

import (
	"slices"
	"strings"
	"testing"

	"dunnage/api"
	"dunnage/crashes"
)

// asked are the answers to lines that only ask, of all that a store has.
func asked(s *Shell) []string {
	answers := []string{s.Do("tags"), s.Do("pins"), s.Do("blobs"), s.Do("free"), s.Do("audit"), s.Do("ls /")}
	for _, h := range strings.Split(answers[2], " ")[1:] {
		answers = append(answers, s.Do("count "+h), s.Do("get "+h))
	}
	for _, word := range s.Store().Pins() {
		answers = append(answers, s.Do("ls /"+word), s.Do("ls /"+word+"/b"), s.Do("cat /"+word+"/a"), s.Do("cat /"+word+"/b/h"))
	}
	return answers
}

// P16.3 (E1): behind a crash within a line the store that is opened answers as ahead of it, or as behind it; as behind it, if it was answered.
func TestCrashWithinALine(t *testing.T) {
	_, l, m := planted(t, 300)
	for _, line := range []string{
		"put 61", "put -", "put " + strings.Repeat("61", 1500), "layer d:b:493 f:b/x:420:61", "manifest os arm " + l, "manifest new arm " + l, "release " + m,
		"tag u " + m, "tag t " + m, "untag t", "pin q t", "unpin p", "tar p",
	} {
		s, _, _ := planted(t, 300)
		ahead, from := asked(s), s.Disk().Ops()
		if answer := s.Do(line); !strings.HasPrefix(answer, "ok") {
			t.Fatalf("%s: %s", line, answer)
		}
		behind, end := asked(s), s.Disk().Ops()
		seen, last, n := [2]int{}, -1, 0
		for k, left := range crashes.Behind(s.Disk(), from) {
			if n++; k == last && n%61 != 0 { // of each op the crash that keeps nothing, and some others
				continue
			}
			last = k
			u := opened(t, left)
			now := asked(u)
			switch {
			case slices.Equal(now, behind):
				seen[1]++
			case slices.Equal(now, ahead) && k < end:
				seen[0]++
			default:
				t.Fatalf("%s, a crash behind op %d of %d to %d: %q", line, k, from, end, now)
			}
			wantError(t, line, u.Check(), api.OK)
		}
		if seen[1] == 0 || seen[0] == 0 && !slices.Equal(ahead, behind) {
			t.Errorf("%s: as ahead and as behind: %v", line, seen)
		}
	}
}

// P16.3 (E1): a line that was answered is there behind each crash; one with an error, or that only asks, leaves nothing to crash.
func TestCrashBetweenLines(t *testing.T) {
	s, l, m := planted(t, 400)
	for _, line := range []string{
		"put 61", "put 6", "tag u " + m, "untag x", "pin q u", "pin q u", "tags", "release " + l, "ls /q", "unpin p", "cat /p/a", "tar q", "untag u", "x", "release " + m, "unpin q", "untag t", "free",
	} {
		answer, now := s.Do(line), asked(s)
		for left := range crashes.Of(s.Disk(), s.Disk().Ops()) {
			u := opened(t, left)
			if got := asked(u); !slices.Equal(got, now) {
				t.Errorf("%s, %s: %q, want %q", line, answer, got, now)
			}
			s = u
		}
	}
}
