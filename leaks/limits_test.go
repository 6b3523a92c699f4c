package leaks

import (
	"math/rand"
	"reflect"
	"strings"
	"testing"

	"leaks/api"
)

// limited holds Check to P10 at all limits about the numbers that are met without limits.
func limited(t *testing.T, s string, k int) {
	t.Helper()
	v, r := Check(s, k, api.Limits{})
	n, c := r.Nodes, r.Conflicts
	if v != api.Secure && v != api.Insecure || n < 0 || c < 0 || n > api.MaxLimit-1 || c > api.MaxLimit-1 {
		t.Fatalf("P10: Check(%q, %d) = %d, with %d nodes and %d conflicts", s, k, v, n, c)
	}
	for _, nodes := range []int{0, 1, n / 2, n - 1, n, n + 1, api.MaxLimit} {
		for _, conflicts := range []int{0, 1, c / 2, c - 1, c, c + 1, api.MaxLimit} {
			if nodes < 0 || conflicts < 0 {
				continue
			}
			l := api.Limits{Nodes: nodes, Conflicts: conflicts}
			want, report := v, r
			if nodes != 0 && n > nodes || conflicts != 0 && c > conflicts {
				want, report = api.Unknown, api.Report{}
			}
			if v2, r2 := Check(s, k, l); v2 != want || !reflect.DeepEqual(r2, report) {
				t.Errorf("P10: Check(%q, %d, %v) = %d, %v, want %d, %v; %d nodes and %d conflicts are met", s, k, l, v2, r2, want, report, n, c)
			}
		}
	}
}

func TestP10Known(t *testing.T) {
	for _, l := range [][]known{examples, byBranch, byIndex, byOutput, silent, without} {
		for _, c := range l {
			for _, k := range []int{0, 1, 2, 5, 10} {
				limited(t, text(c.s), k)
			}
		}
	}
}

func TestP10ByChance(t *testing.T) {
	m := maker{chance: rand.New(rand.NewSource(13))}
	for range 300 {
		s, inputs := m.program()
		if inputs < 3 {
			limited(t, s, m.chance.Intn(api.MaxK+1))
		}
	}
	limited(t, text("secret a/public b/secret c/a = a * b/out b/b = b * b/out b/c = c - b/b = b << a/out a/"), 10)
	limited(t, text("public a/public b/secret c/a = a * b/out b/b = b * b/out b/c = c - b/b = b - a/out b/"), 10)
}

// What is met: a node for each decision, a conflict for each line of the proof.
func TestP10Met(t *testing.T) {
	for _, c := range []struct {
		s                string
		k                int
		nodes, conflicts int
	}{
		{"", 0, 0, 1},
		{"", 1, 0, 8},
		{"", 10, 0, 71},
		{"secret a/a = a + 1/", 10, 0, 71},
		{"secret a/out a/", 0, 0, 1},
		{"secret a/out a/", 1, 4, 0},
		{"secret a/if a/end/", 1, 4, 0},
		{"public a/out a/", 1, 4, 12},
		{"public a/secret b/out a/out a/", 2, 4, 23},
		{"public a/if a/end/", 1, 4, 9},
		{"public a/out a/if a/end/", 2, 7, 20},
	} {
		_, r := Check(text(c.s), c.k, api.Limits{})
		if r.Nodes != c.nodes || r.Conflicts != c.conflicts {
			t.Errorf("P10: Check(%q, %d): %d nodes, %d conflicts, want %d, %d", c.s, c.k, r.Nodes, r.Conflicts, c.nodes, c.conflicts)
		}
		if lines := strings.Count(r.Proof, "\n"); lines != c.conflicts {
			t.Errorf("P10: Check(%q, %d): the proof has %d lines, want %d", c.s, c.k, lines, c.conflicts)
		}
	}
}

// A limit makes nothing a program that is none, and rejects nothing else.
func TestP10Reject(t *testing.T) {
	for _, l := range []api.Limits{{Nodes: 1}, {Conflicts: 1}, {Nodes: 1, Conflicts: 1}} {
		if v, r := Check("secret a\nout b\n", 10, l); v != api.Reject || !reflect.DeepEqual(r, api.Report{Line: 2}) {
			t.Errorf("P5: with the limits %v: %d, %v", l, v, r)
		}
		if v, r := Check("secret a\nout a\n", 11, l); v != api.Reject || !reflect.DeepEqual(r, api.Report{}) {
			t.Errorf("P5: with the limits %v: %d, %v", l, v, r)
		}
	}
}

// With limits, too: asked again, and with other names, the answer is the same.
func TestP1P6Limited(t *testing.T) {
	m := maker{chance: rand.New(rand.NewSource(14))}
	unknown := 0
	for range 200 {
		s, _ := m.program()
		l := api.Limits{Nodes: m.chance.Intn(40), Conflicts: m.chance.Intn(100)}
		k := m.chance.Intn(api.MaxK + 1)
		v, r := Check(s, k, l)
		for _, other := range []string{s, renamed(s, m.chance.Perm(26))} {
			if v2, r2 := Check(other, k, l); v != v2 || !reflect.DeepEqual(r, r2) {
				t.Errorf("P1: Check(%q, %d, %v) = %d, %v, then (%q) %d, %v", s, k, l, v, r, other, v2, r2)
			}
		}
		if v == api.Unknown {
			unknown++
		}
	}
	if unknown < 40 || unknown > 160 {
		t.Errorf("%d of 200 are Unknown: too few or too many to tell much", unknown)
	}
}
