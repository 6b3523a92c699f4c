package leaks

import (
	"math/rand"
	"reflect"
	"slices"
	"strings"
	"testing"

	"leaks/api"
)

// text: a slash is a line's end.
func text(s string) string { return strings.ReplaceAll(s, "/", "\n") }

var farNumbers = []int{-1 << 63, -1 << 31, -17, -1, 0, 1, 3, 10, 11, 15, 16, 600, api.MaxLimit, api.MaxLimit + 1, 1 << 31, 1<<63 - 1}

func TestP1AnyArguments(t *testing.T) {
	m := maker{chance: rand.New(rand.NewSource(1))}
	texts := []string{"", "\n", " ", "\x00", "\xff\xfe\n", "a", "=\n", "= = =\n", "a = \n", "load\n", "array\n", "array t\n", "secret\n", "if\n", "end\n", "else\n", strings.Repeat("\n", 600), strings.Repeat(" ", 600), strings.Repeat("if 1\n", 120), strings.Repeat("end\n", 150), strings.Repeat("x", 1<<20), "secret \xc3\xa4\n", "while 1\nend\n", "secret a\nwhile a\nend\n"}
	for i := 0; i < 50; i++ {
		noise := make([]byte, m.chance.Intn(700))
		for j := range noise {
			noise[j] = byte(m.chance.Intn(256))
		}
		texts = append(texts, string(noise))
	}
	for _, s := range texts {
		for _, k := range farNumbers {
			Run(s, nil, k)
			Run(s, []int{k}, 5)
			Run(s, farNumbers, k)
			Check(s, k, api.Limits{})
			Check(s, 2, api.Limits{Nodes: k})
			Check(s, 2, api.Limits{Conflicts: k})
		}
	}
}

func TestP1AskedAgain(t *testing.T) {
	m := maker{chance: rand.New(rand.NewSource(2))}
	for i := 0; i < 300; i++ {
		s, inputs := m.program()
		in := m.values(inputs)
		l := Run(s, in, 10)
		s2 := m.spoil(s)
		v, r := Check(s2, 3, api.Limits{})
		if again := Run(s, in, 10); !slices.Equal(l, again) {
			t.Errorf("P1: Run(%q, %v) = %v, then %v", s, in, l, again)
		}
		if v2, r2 := Check(s2, 3, api.Limits{}); v != v2 || !reflect.DeepEqual(r, r2) {
			t.Errorf("P1: Check(%q) = %d %v, then %d %v", s2, v, r, v2, r2)
		}
	}
}

func TestP1Owned(t *testing.T) {
	s := text("secret a/public b/a = b/b = 3/out a/out b/")
	want := []int{0, 0, 50, 51, 64}
	room := []int{1, 2, 77, 78}
	first := Run(s, room[:2], 5)
	if !slices.Equal(room, []int{1, 2, 77, 78}) {
		t.Errorf("P1: the inputs were written into: %v", room)
	}
	second := Run(s, room[:2], 5)
	for _, l := range [][]int{first[:cap(first)], room} {
		for i := range l {
			l[i] = 99
		}
	}
	if !slices.Equal(second, want) {
		t.Errorf("P1: writing into one answer changed another: %v", second)
	}
	if third := Run(s, []int{1, 2}, 5); !slices.Equal(third, want) {
		t.Errorf("P1: writing into an answer changed a later one: %v", third)
	}
}

func (m *maker) values(n int) []int {
	var in []int
	for i := 0; i < n; i++ {
		in = append(in, m.chance.Intn(16))
	}
	return in
}

func TestP2P4RunsByChance(t *testing.T) {
	m := maker{chance: rand.New(rand.NewSource(3))}
	for i := 0; i < 20000; i++ {
		s, inputs := m.program()
		in := m.values(inputs)
		k := m.chance.Intn(11)
		want := referenceRun(s, in, k)
		if l := Run(s, in, k); len(l) != k || !slices.Equal(l, want) {
			t.Fatalf("P4: Run(%q, %v, %d) = %v, want %v", s, in, k, l, want)
		}
	}
}

func TestP3LinesByChance(t *testing.T) {
	m := maker{chance: rand.New(rand.NewSource(4))}
	wrong := 0
	for i := 0; i < 20000; i++ {
		s, _ := m.program()
		for n := m.chance.Intn(3); n > 0; n-- {
			s = m.spoil(s)
		}
		want := referenceLine(s)
		v, r := Check(s, 0, api.Limits{})
		if r.Line != want || (v == api.Reject) != (want != 0) {
			t.Fatalf("P3: Check(%q) = %d, line %d, want line %d", s, v, r.Line, want)
		}
		if want != 0 {
			wrong++
		}
	}
	if wrong < 5000 || wrong > 15000 {
		t.Errorf("of 20000 texts %d were wrong: too lopsided to tell much", wrong)
	}
}

// The bounds at their edges, the last text within and the first one beyond.
func TestP2P3Edges(t *testing.T) {
	for _, c := range []struct {
		s    string
		line int
	}{
		{"", 0},
		{"secret a/public b/secret c/", 0},
		{"secret a/public b/secret c/secret d/", 4},
		{"public a/public b/public c/public d/", 4},
		{"var a/var b/var c/var d/", 0},
		{"var a/var b/var c/var d/var e/", 5},
		{"array a 1/array b 4/", 0},
		{"array a 1/array b 4/array c 2/", 3},
		{"array a 2/array b 3/", 0},
		{"array a 0/", 1},
		{"array a 5/", 1},
		{"array a 04/", 1},
		{"array a b/", 1},
		{"secret a/array b 2/public c/var d/array e 2/var f/", 0},
		{"array b 2/var d/array e 2/secret f/", 4},
		{"secret a/var b/public c/", 3},
		{"secret a/public a/", 2},
		{"var a/array a 1/", 2},
		{"array a 1/secret a/", 2},
		{strings.Repeat("out 1/", 12), 0},
		{strings.Repeat("out 1/", 13), 13},
		{strings.Repeat("if 1/else/end/", 12), 0},
		{strings.Repeat("if 1/else/end/", 13), 37},
		{strings.Repeat("while 1/", 4) + strings.Repeat("end/", 4), 0},
		{strings.Repeat("while 1/", 5) + strings.Repeat("end/", 5), 5},
		{"if 1/else/if 1/else/while 1/if 1/else/out 1/end/end/end/end/while 1/end/", 0},
		{"if 1/else/if 1/else/while 1/if 1/else/if 1/end/end/end/end/end/", 8},
		{"if 1/if 1/end/if 1/if 1/if 1/end/end/end/end/", 0},
		{"secret a/", 0},
		{"secret a/out a/if a/end/", 0},
		{"if 1/", 2},
		{"if 1/else/", 3},
		{"if 1/while 1/end/", 4},
		{"if 1/end/end/", 3},
		{"if 1/else/else/end/", 3},
		{"if 1/while 1/else/", 3},
		{"if 1/else/while 1/end/else/", 5},
	} {
		if v, r := Check(text(c.s), 4, api.Limits{}); r.Line != c.line || (v == api.Reject) != (c.line != 0) {
			t.Errorf("P3: Check(%q) = %d, line %d, want line %d", c.s, v, r.Line, c.line)
		}
	}
}

// A line each that is wrong behind these declarations.
func TestP3WrongLines(t *testing.T) {
	ahead := text("secret a/public b/var c/array t 3/")
	for _, s := range []string{
		"", " ", "x", "a", "a =", "a = ", "a= 1", "a =1", "a = 16", "a = 00", "a = -1", "a = 1 +", "a = + 1", "a = 1 + ", "a = 1 + 2 + 3", "a = 1 2 3", "a = 1 ++ 2", "a = 1 <= 2", "a = 1 > 2", "a = 1 != 2", "a = 1 / 2", "a == 1", "a := 1", "1 = a", "t = 1", "a = t", "a = t + 1", "a = 1 + t", "d = 1", "a = d", "a = 1 + d", "aa = 1", "A = 1", "a = A",
		"load", "load a", "load a t", "load a t 0 1", "load t t 0", "load a a 0", "load a d 0", "load d t 0", "load a t t", "load a t d", "load a t 16", "load 1 t 0", "load a 1 0", "load a t  0",
		"store", "store t", "store t 0", "store t 0 1 2", "store a 0 1", "store d 0 1", "store t t 1", "store t 0 t", "store t d 1", "store t 0 d", "store t 0 16", "store 1 0 1",
		"out", "out ", "out t", "out d", "out 16", "out a b", "out aa", "Out a", "OUT a", "out\ta", "out a\r", " out a", "out a ", "out  a",
		"if", "if t", "if d", "if 16", "if a b", "if a == b", "while", "while t", "while d", "while a b", "else", "end", "else if a", "end 1",
		"secret", "secret a", "secret d", "public d", "secret b c", "public", "public t", "var", "var a", "var t", "var 1", "var dd", "var D", "var d 1", "var d e", "array", "array d", "array d 0", "array d 5", "array d 15", "array d 1 1", "array t 1", "array a 1", "array 1 1", "array dd 1", "array d d", "# out 1", "out 1;", "\xff", "\x00",
	} {
		for behind, more := range []string{"", "out a\n", "x\n", "if 1\n"} {
			v, r := Check(ahead+s+"\n"+more, 4, api.Limits{})
			if v != api.Reject || !reflect.DeepEqual(r, api.Report{Line: 5}) {
				t.Errorf("P3: with the line %q (%d) Check = %d, %v", s, behind, v, r)
			}
			if l := Run(ahead+s+"\n"+more, []int{1, 2}, 4); l != nil {
				t.Errorf("P4: with the line %q (%d) Run = %v", s, behind, l)
			}
		}
	}
	for _, s := range []string{"a = 1", "b = a", "c = c << 15", "load a t 3", "store t 15 b", "out 0", "var d", "array d 1"} {
		if v, r := Check(ahead+s+"\n", 4, api.Limits{}); v == api.Reject || r.Line != 0 {
			t.Errorf("P2: with the line %q Check = %d, line %d", s, v, r.Line)
		}
	}
}

func TestP3DeclarationBehindStatement(t *testing.T) {
	for _, s := range []string{"secret a", "public a", "var a", "array a 1"} {
		for _, ahead := range []string{"out 1/", "if 1/", "while 0/end/", "if 1/else/end/"} {
			if v, r := Check(text(ahead+s+"/"), 4, api.Limits{}); v != api.Reject || r.Line != strings.Count(ahead, "/")+1 {
				t.Errorf("P3: Check(%q) = %d, line %d", ahead+s, v, r.Line)
			}
		}
	}
}

func TestP3NotEnded(t *testing.T) {
	for _, c := range []struct {
		s    string
		line int
	}{
		{"secret a", 1}, {"x", 1}, {" ", 1}, {"var a/out a", 2}, {"var a/out b", 2}, {"var a/if a/out a/end", 4}, {"if 1/out 1", 2}, {"if 1/x/out 1", 2}, {"if 1", 1}, {"if 1/ ", 2},
	} {
		if v, r := Check(text(c.s), 4, api.Limits{}); v != api.Reject || r.Line != c.line {
			t.Errorf("P3: Check(%q) = %d, line %d, want line %d", c.s, v, r.Line, c.line)
		}
	}
}

func TestP4Examples(t *testing.T) {
	for _, c := range []struct {
		s    string
		in   []int
		want []int
	}{
		{"secret a/while a/a = a - 1/end/", []int{2}, []int{17, 0, 17, 0, 16, 64, 64}},
		{"public b/secret a/if b/out a/else/out 0/end/", []int{1, 9}, []int{17, 57, 64}},
		{"secret a/array t 2/store t a 5/out 1/", []int{1}, []int{33, 49, 64}},
		{"secret a/array t 2/store t a 5/out 1/", []int{7}, []int{39, 80, 80}},
		{"var x/x = 3 - 5/out x/x = x << 2/out x/x = x == 8/out x/", nil, []int{0, 62, 0, 56, 0, 49}},
		{"", nil, []int{64, 64}},
		{"", []int{}, []int{64, 64}},
		{"while 1/end/", nil, []int{17, 17, 17, 17, 17, 17, 17, 17, 17, 17}},
		{"while 3/while 0/end/end/", nil, []int{17, 16, 17, 16, 17}},
		{"secret a/array t 4/load a t a/out a/", []int{3}, []int{35, 48, 64}},
		{"secret a/array t 4/load a t 4/out a/", []int{3}, []int{36, 80, 80}},
		{"secret a/array t 1/store t 0 9/load a t 0/out a/load a t 1/", []int{3}, []int{32, 32, 57, 33, 80}},
		{"secret a/array t 3/array u 3/store t 2 a/load a u 2/out a/load a t 2/out a/", []int{3}, []int{34, 34, 48, 34, 51, 64}},
		{"secret a/array t 3/store t 3 a/", []int{3}, []int{35, 80}},
	} {
		if l := Run(text(c.s), c.in, len(c.want)); !slices.Equal(l, c.want) {
			t.Errorf("P4: Run(%q, %v) = %v, want %v", c.s, c.in, l, c.want)
		}
	}
}

// Of every array and every index: whether it traps, and what is told.
func TestP4Indices(t *testing.T) {
	for _, s := range []string{"secret i/var x/array t %/load x t i/out 1/", "secret i/array t %/store t i i/out 1/"} {
		for n := 1; n <= api.Cells; n++ {
			for i := 0; i < api.Values; i++ {
				want := []int{32 + i, 49, 64}
				if i >= n {
					want = []int{32 + i, 80, 80}
				}
				p := text(strings.ReplaceAll(s, "%", string(rune('0'+n))))
				if l := Run(p, []int{i}, 3); !slices.Equal(l, want) {
					t.Errorf("P4: Run(%q, %d) = %v, want %v", p, i, l, want)
				}
			}
		}
	}
}

func TestP4Nil(t *testing.T) {
	s := text("secret a/public b/out a/")
	for _, k := range farNumbers {
		l := Run(s, []int{1, 15}, k)
		if within := k >= 0 && k <= 10; within && len(l) != k || !within && l != nil {
			t.Errorf("P4: Run with k %d = %v", k, l)
		}
	}
	for _, in := range [][]int{nil, {}, {1}, {1, 2, 3}, {16, 0}, {0, 16}, {-1, 0}, {0, -1}, {1 << 62, 0}, {0, -1 << 63}} {
		for _, k := range []int{0, 1, 10} {
			if l := Run(s, in, k); l != nil {
				t.Errorf("P4: Run with the inputs %v = %v", in, l)
			}
		}
	}
	for _, p := range []string{"x\n", "out 1", "if 1\n", strings.Repeat("x", 601)} {
		if l := Run(p, nil, 3); l != nil {
			t.Errorf("P4: Run(%q) = %v", p, l)
		}
	}
	if l := Run("out 1\n", []int{0}, 1); l != nil {
		t.Errorf("P4: Run with an input too many = %v", l)
	}
}

func TestP5Bounds(t *testing.T) {
	texts := []string{"", "x\n", "out 1\n", "if 1\n", "out 1", strings.Repeat("x", 601)}
	lines := []int{0, 1, 0, 2, 1, 1}
	for _, n := range farNumbers {
		for i, s := range texts {
			for _, c := range []struct {
				k, most int
				l       api.Limits
			}{
				{n, 10, api.Limits{}},
				{4, 1048576, api.Limits{Nodes: n}},
				{4, 1048576, api.Limits{Conflicts: n}},
				{4, 1048576, api.Limits{Nodes: n, Conflicts: n}},
			} {
				within := n >= 0 && n <= c.most
				v, r := Check(s, c.k, c.l)
				want := api.Report{}
				if within {
					want.Line = lines[i]
				}
				if reject := !within || lines[i] != 0; reject != (v == api.Reject) || reject && !reflect.DeepEqual(r, want) || r.Line != want.Line {
					t.Errorf("P5: Check(%.9q, %v) = %d, %v", s, c, v, r)
				}
			}
		}
	}
}

func TestP5Length(t *testing.T) {
	for _, c := range []struct {
		s    string
		line int
	}{
		{strings.Repeat("var a\n", 100), 2},
		{strings.Repeat("var a\n", 100) + "\n", 1},
		{"secret a\n" + strings.Repeat("x", 591), 2},
		{"secret a\n" + strings.Repeat("x", 592), 1},
		{"secret a\nout a\n" + strings.Repeat(" ", 585), 3},
		{"secret a\nout a\n" + strings.Repeat(" ", 586), 1},
		{"secret a\nout a\n" + strings.Repeat("\n", 600), 1},
	} {
		if v, r := Check(c.s, 4, api.Limits{}); v != api.Reject || r.Line != c.line {
			t.Errorf("P5: of %d bytes: %d, line %d, want line %d", len(c.s), v, r.Line, c.line)
		}
	}
}
