package source

import (
	"reflect"
	"slices"
	"strings"
	"testing"

	"leaks/api"
)

func read(t *testing.T, s string) Program {
	t.Helper()
	p, wrong := Read(strings.ReplaceAll(s, "/", "\n"))
	if wrong != 0 {
		t.Fatalf("P2: %q has the wrong line %d", s, wrong)
	}
	return p
}

func TestP2Declarations(t *testing.T) {
	p := read(t, "array t 1/secret z/array u 4/public a/secret m/var b/var y/")
	want := Program{Secret: []bool{true, false, true}, Vars: 2, Cells: []int{1, 4}}
	if !reflect.DeepEqual(p, want) {
		t.Errorf("P2: %v, want %v", p, want)
	}
}

func TestP2Statements(t *testing.T) {
	p := read(t, "secret s/var x/array t 2/array u 3/x = 15/s = x >> 10/load x u s/store t 1 x/out 0/")
	s := Atom{Named: true, Value: 0}
	x := Atom{Named: true, Value: 1}
	want := []Statement{
		{Kind: Assign, Op: api.Move, Slot: 1, A: Atom{Value: 15}, Next: 1},
		{Kind: Assign, Op: api.Shr, Slot: 0, A: x, B: Atom{Value: 10}, Next: 2},
		{Kind: Load, Slot: 1, Array: 1, A: s, Next: 3},
		{Kind: Store, Array: 0, A: Atom{Value: 1}, B: x, Next: 4},
		{Kind: Out, Next: 5},
	}
	if !slices.Equal(p.Code, want) {
		t.Errorf("P2: %v, want %v", p.Code, want)
	}
}

func TestP2Operations(t *testing.T) {
	for i, w := range []string{"+", "-", "*", "&", "|", "^", "<<", ">>", "<", "=="} {
		p := read(t, "var x/x = x "+w+" 3/")
		if p.Code[0].Op != api.Add+i {
			t.Errorf("P2: %s is operation %d", w, p.Code[0].Op)
		}
	}
	for _, w := range []string{"", "=", ">", "<=", ">=", "!=", "/", "%", "&&", "||", "<<<", "+ ", "x", "1", "\xff"} {
		if op := operation(w); op != -1 {
			t.Errorf("P2: %q is operation %d", w, op)
		}
	}
}

// goes: where each statement leads, as pairs of Next and Else.
func goes(p Program) [][2]int {
	var l [][2]int
	for _, s := range p.Code {
		l = append(l, [2]int{s.Next, s.Else})
	}
	return l
}

func TestP2Blocks(t *testing.T) {
	for _, c := range []struct {
		s    string
		want [][2]int
	}{
		{"if 1/end/", [][2]int{{1, 1}}},
		{"if 1/else/end/", [][2]int{{1, 1}}},
		{"while 1/end/", [][2]int{{0, 1}}},
		{"if 1/out 1/end/out 2/", [][2]int{{1, 2}, {2, 0}, {3, 0}}},
		{"if 1/out 1/else/out 2/end/out 3/", [][2]int{{1, 2}, {3, 0}, {3, 0}, {4, 0}}},
		{"if 1/else/out 2/end/", [][2]int{{2, 1}, {2, 0}}},
		{"if 1/out 1/else/end/out 3/", [][2]int{{1, 2}, {2, 0}, {3, 0}}},
		{"while 1/out 1/end/out 2/", [][2]int{{1, 2}, {0, 0}, {3, 0}}},
		{"while 1/if 2/out 1/else/while 3/end/end/end/", [][2]int{{1, 4}, {2, 3}, {0, 0}, {3, 0}}},
		{"while 1/while 2/if 3/end/end/end/", [][2]int{{1, 3}, {2, 0}, {1, 1}}},
		{"if 1/if 2/else/if 3/else/end/end/else/if 4/end/end/", [][2]int{{1, 3}, {4, 2}, {4, 4}, {4, 4}}},
	} {
		if l := goes(read(t, c.s)); !slices.Equal(l, c.want) {
			t.Errorf("P2: %q goes %v, want %v", c.s, l, c.want)
		}
	}
}

func TestP2Numbers(t *testing.T) {
	for n, w := range strings.Split("0 1 2 3 4 5 6 7 8 9 10 11 12 13 14 15", " ") {
		if number(w) != n {
			t.Errorf("P2: %q is %d", w, number(w))
		}
	}
	for _, w := range []string{"", "00", "01", "015", "16", "19", "20", "25", "100", "150", "-1", "+1", "1 ", "a", "1a", "0x1", "/", ":", "1/", "1:", "\u0661"} {
		if number(w) != -1 {
			t.Errorf("P2: %q is %d", w, number(w))
		}
	}
}

func TestP3NoProgramBesideALine(t *testing.T) {
	for _, s := range []string{"secret a\nvar b\nif b\n", "secret a\nout a", "secret a\nout a\nx\n", strings.Repeat("x", 601)} {
		if p, wrong := Read(s); wrong == 0 || !reflect.DeepEqual(p, Program{}) {
			t.Errorf("P3: %q gives %v and line %d", s, p, wrong)
		}
	}
}
