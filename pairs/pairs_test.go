package pairs

import (
	"slices"
	"strings"
	"testing"

	"leaks/machine"
	"leaks/source"
)

func read(t *testing.T, s string) source.Program {
	t.Helper()
	p, wrong := source.Read(strings.ReplaceAll(s, "/", "\n"))
	if wrong != 0 {
		t.Fatalf("P3: %q: line %d", s, wrong)
	}
	return p
}

// Several steps of these tell a secret, of some public inputs earlier than of others; at is the earliest of all (-1: there is none).
var earliest = []struct {
	s  string
	at int
}{
	{"", -1},
	{"public a/public b/public c/out a/out b/out c/", -1},
	{"secret a/secret b/secret c/a = b + c/", -1},
	{"secret a/while a/a = a - 1/end/", 0},
	{"secret a/var m/m = a == 15/out m/out a/", 1},
	{"secret a/var m/m = a == 15/m = m & 2/out m/out a/", 3},
	{"public n/secret a/while n/n = n - 1/end/out a/", 1},
	{"public n/secret a/n = n ^ 15/while n/n = n - 1/end/out a/", 2},
	{"secret a/public n/n = n ^ 8/while n/n = n - 1/end/out a/", 2},
	{"secret a/secret b/public n/var m/m = a & b/m = m & n/m = m == 15/out m/if n/out b/end/", 3},
}

func TestP7Earliest(t *testing.T) {
	for _, c := range earliest {
		p := read(t, c.s)
		for k := 0; k <= 10; k++ {
			pair, found := Find(p, k)
			if found != (c.at >= 0 && c.at < k) {
				t.Errorf("P6: Find(%q, %d) = %v, %v", c.s, k, pair, found)
				continue
			}
			if !found {
				if pair.First != nil || pair.Second != nil || pair.At != 0 {
					t.Errorf("P7: Find(%q, %d): there is none, but it gives %v", c.s, k, pair)
				}
				continue
			}
			a := machine.Tell(p, pair.First, k)
			b := machine.Tell(p, pair.Second, k)
			if pair.At != c.at || !slices.Equal(a[:c.at], b[:c.at]) || a[c.at] == b[c.at] {
				t.Errorf("P7: Find(%q, %d) = %v: %v, %v", c.s, k, pair, a, b)
			}
		}
	}
}

// Numbers of steps that nobody asks Check for: Find must bear them, too.
func TestP1NoPanic(t *testing.T) {
	p := read(t, "secret a/public b/out b/out a/")
	for _, k := range []int{-1 << 63, -1, 0, 1, 2, 40} {
		if pair, found := Find(p, k); found != (k > 1) {
			t.Errorf("P1: Find with k %d = %v, %v", k, pair, found)
		}
	}
}
