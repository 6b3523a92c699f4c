package leaks

import (
	"fmt"
	"math/rand"
	"reflect"
	"regexp"
	"slices"
	"strconv"
	"strings"
	"testing"

	"leaks/api"
)

// formula: the clauses of a report, and where each literal stands in them.
type formula struct {
	vars    int
	clauses [][]int
	places  map[int][]int
}

var lineOfClause = regexp.MustCompile(`^(-?[1-9][0-9]{0,7} )*0$`)

// parse reads a formula as P8 says that it is written.
func parse(r api.Report) (formula, error) {
	f := formula{vars: r.Vars}
	lines := strings.Split(r.Formula, "\n")
	if lines[len(lines)-1] != "" {
		return f, fmt.Errorf("the last line, %q, is not ended", lines[len(lines)-1])
	}
	for _, line := range lines[:len(lines)-1] {
		if !lineOfClause.MatchString(line) {
			return f, fmt.Errorf("the line %q", line)
		}
		words := strings.Split(line, " ")
		clause := []int{}
		for _, word := range words[:len(words)-1] {
			l, _ := strconv.Atoi(word)
			if max(l, -l) > r.Vars {
				return f, fmt.Errorf("the line %q, of %d variables", line, r.Vars)
			}
			clause = append(clause, l)
		}
		f.clauses = append(f.clauses, clause)
	}
	return f, nil
}

// ahead gives what stands ahead of the last 28 k + 1 clauses, if those are right and no other has a difference. ins: the variables of inputs.
func (f formula) ahead(ins, k int) (formula, error) {
	end := len(f.clauses) - 28*k - 1
	if end < 0 || f.vars < ins+21*k {
		return f, fmt.Errorf("%d clauses of %d variables", len(f.clauses), f.vars)
	}
	want := ""
	all := ""
	for i := 1; i <= 7*k; i++ {
		a, b, d := ins+i, ins+7*k+i, ins+14*k+i
		want += fmt.Sprintf("[%d %d %d] [%d %d %d] [%d %d %d] [%d %d %d] ", -d, a, b, -d, -a, -b, d, -a, b, d, a, -b)
		all += fmt.Sprint(d, " ")
	}
	want = "[" + want + "[" + strings.TrimSpace(all) + "]]"
	if last := fmt.Sprint(f.clauses[end:]); last != want {
		return f, fmt.Errorf("the last clauses are %s, want %s", last, want)
	}
	h := formula{vars: f.vars, clauses: f.clauses[:end], places: map[int][]int{}}
	for i, clause := range h.clauses {
		for _, l := range clause {
			if v := max(l, -l); v > ins+14*k && v <= ins+21*k {
				return f, fmt.Errorf("the clause %v has a difference", clause)
			}
			h.places[l] = append(h.places[l], i)
		}
	}
	return h, nil
}

// follows sets what follows from some literals: for each variable 1, -1 or 0. It is false if a clause has no true literal and none that is not set.
func (f formula) follows(literals []int) ([]int, bool) {
	values := make([]int, f.vars+1)
	work := slices.Clone(literals)
	look := func(clause []int) bool {
		open := map[int]bool{}
		for _, l := range clause {
			switch v := values[max(l, -l)]; {
			case v == 0:
				open[l] = true
			case v > 0 == (l > 0):
				return true
			}
		}
		for l := range open {
			if len(open) == 1 {
				work = append(work, l)
			}
		}
		return len(open) > 0
	}
	for _, clause := range f.clauses {
		if len(clause) < 2 && !look(clause) {
			return values, false
		}
	}
	for len(work) > 0 {
		l := work[len(work)-1]
		work = work[:len(work)-1]
		sign := l / max(l, -l)
		if values[max(l, -l)] == -sign {
			return values, false
		}
		values[max(l, -l)] = sign
		for _, i := range f.places[-l] {
			if !look(f.clauses[i]) {
				return values, false
			}
		}
	}
	return values, true
}

// literals: of the four bits of a word, begun at a variable.
func literals(word, variable int) []int {
	var l []int
	for i := range 4 {
		if word>>i&1 == 1 {
			l = append(l, variable+i)
		} else {
			l = append(l, -variable-i)
		}
	}
	return l
}

// set: P8: does the formula say of two runs what they tell?
func (f formula) set(s string, k int, first, second []int) error {
	secret := secrets(s)
	var in []int
	for _, value := range first {
		in = append(in, literals(value, len(in)+1)...)
	}
	for i, value := range second {
		if secret[i] {
			in = append(in, literals(value, len(in)+1)...)
		}
	}
	values, ok := f.follows(in)
	if !ok {
		return fmt.Errorf("of the runs of %v and %v a clause is false", first, second)
	}
	for i, number := range append(referenceRun(s, first, k), referenceRun(s, second, k)...) {
		for bit := range 7 {
			if v := len(in) + 7*i + bit + 1; values[v] != number>>bit%2*2-1 {
				return fmt.Errorf("of the runs of %v and %v variable %d is %d, where %d is told", first, second, v, values[v], number)
			}
		}
	}
	for v := 1; v <= f.vars; v++ {
		if values[v] == 0 && (v <= len(in)+14*k || v > len(in)+21*k) {
			return fmt.Errorf("of the runs of %v and %v variable %d is not set", first, second, v)
		}
	}
	return nil
}

// apart: P8: does no row of clauses lead from one run to the other, when the public inputs are set? It paints what is in a row with the first run.
func (f formula) apart(s string, k int, in []int) error {
	var public, first, second []int
	secret := secrets(s)
	n := 0
	for i, value := range in {
		if secret[i] {
			first = append(first, n+1, n+2, n+3, n+4)
		} else {
			public = append(public, literals(value, n+1)...)
		}
		n += 4
	}
	for range 4 * strings.Count(fmt.Sprint(secret), "true") {
		n++
		second = append(second, n)
	}
	for i := 1; i <= 7*k; i++ {
		first = append(first, n+i)
		second = append(second, n+7*k+i)
	}
	values, ok := f.follows(public)
	if !ok {
		return fmt.Errorf("with the public inputs of %v a clause is false", in)
	}
	painted := make([]bool, f.vars+1)
	work := slices.Clone(first)
	for len(work) > 0 {
		v := work[len(work)-1]
		work = work[:len(work)-1]
		if painted[v] || values[v] != 0 {
			continue
		}
		painted[v] = true
		for _, i := range append(slices.Clone(f.places[v]), f.places[-v]...) {
			if !slices.ContainsFunc(f.clauses[i], func(l int) bool { return values[max(l, -l)]*l > 0 }) {
				for _, l := range f.clauses[i] {
					work = append(work, max(l, -l))
				}
			}
		}
	}
	for _, v := range second {
		if painted[v] {
			return fmt.Errorf("with the public inputs of %v the first run's variables lead to %d", in, v)
		}
	}
	return nil
}

// formulaOf checks all of P8 that needs no runs, and gives the clauses ahead of the last ones.
func formulaOf(t *testing.T, s string, k int) formula {
	t.Helper()
	v, r := Check(s, k, api.Limits{})
	if v != api.Secure && v != api.Insecure {
		t.Fatalf("P6: Check(%q, %d) = %d", s, k, v)
	}
	f, err := parse(r)
	if err == nil {
		ins := 0
		for _, secret := range secrets(s) {
			ins += 4
			if secret {
				ins += 4
			}
		}
		f, err = f.ahead(ins, k)
	}
	if err != nil {
		t.Fatalf("P8: %q, %d: %v", s, k, err)
	}
	return f
}

// says holds a formula to some pairs of runs by chance, and to those of the greatest and the least inputs.
func (m *maker) says(t *testing.T, s string, k, pairs int) {
	t.Helper()
	f := formulaOf(t, s, k)
	secret := secrets(s)
	for i := range pairs {
		first := m.values(len(secret))
		second := m.values(len(secret))
		for j := range secret {
			switch {
			case i < 4:
				first[j], second[j] = i%2*15, i/2*15
			case i == 4:
				first[j], second[j] = j+1, 15-j
			}
			if !secret[j] {
				second[j] = first[j]
			}
		}
		err := f.set(s, k, first, second)
		if err == nil {
			err = f.apart(s, k, first)
		}
		if err != nil {
			t.Fatalf("P8: %q, %d: %v", s, k, err)
		}
	}
}

func TestP8Known(t *testing.T) {
	m := maker{chance: rand.New(rand.NewSource(8))}
	for _, l := range [][]known{examples, byBranch, byIndex, byOutput, silent, without} {
		for _, c := range l {
			for k := 0; k <= api.MaxK; k++ {
				m.says(t, text(c.s), k, 12)
			}
		}
	}
}

// Each operation, of each two kinds of atoms that there are.
func TestP8Operations(t *testing.T) {
	m := maker{chance: rand.New(rand.NewSource(9))}
	for _, op := range []string{"+", "-", "*", "&", "|", "^", "<<", ">>", "<", "=="} {
		for _, a := range []string{"a", "b", "p", "11"} {
			for _, b := range []string{"a", "b", "p", "2"} {
				s := fmt.Sprintf("public p\nsecret a\nsecret b\nvar m\nm = %s %s %s\nout m\n", a, op, b)
				m.says(t, s, 2, 40)
			}
		}
	}
}

func TestP8ByChance(t *testing.T) {
	m := maker{chance: rand.New(rand.NewSource(10))}
	for range 600 {
		s, _ := m.program()
		m.says(t, s, m.chance.Intn(api.MaxK+1), 10)
	}
}

// Programs with all inputs, and statements that mix them as well as may be.
func TestP8Great(t *testing.T) {
	m := maker{chance: rand.New(rand.NewSource(11))}
	for _, inputs := range []string{"secret a/secret b/secret c/", "secret a/public b/secret c/", "public a/secret b/public c/", "public a/public b/public c/"} {
		for _, s := range []string{
			"a = a * b/a = a ^ c/b = b * c/b = b + a/c = c * a/c = c - b/out a/out b/out c/",
			"array t 4/while a/store t 1 b/b = b * a/c = c + b/if c/a = a ^ c/else/load a t 3/end/out b/end/",
			"a = a * b/out a/a = a ^ c/out a/b = b * a/out b/c = c - b/out c/b = b * c/out b/",
		} {
			m.says(t, text(inputs+s), api.MaxK, 12)
		}
	}
}

// All pairs of runs, and all public inputs.
func TestP8EveryRun(t *testing.T) {
	for _, c := range []string{
		"secret a/while a/a = a - 1/end/",
		"secret a/var x/array t 2/x = a >> 2/store t x a/load x t 0/out x/",
		"public b/secret a/var x/x = a < b/if x/out a/else/out b/end/",
		"secret a/public b/var x/x = a * b/x = x - a/if x/out b/end/",
		"secret a/public b/var x/x = a | b/x = x & b/if x/out b/end/",
		"public b/out b/while b/b = b << 1/out b/end/",
	} {
		s := text(c)
		secret := secrets(s)
		at := slices.Index(secret, true)
		f := formulaOf(t, s, 5)
		everyInput(len(secret), func(first []int) {
			second := slices.Clone(first)
			for value := range 16 {
				if at >= 0 {
					second[at] = value
				}
				if err := f.set(s, 5, first, second); err != nil {
					t.Fatalf("P8: %q: %v", c, err)
				}
			}
			if err := f.apart(s, 5, first); err != nil {
				t.Fatalf("P8: %q: %v", c, err)
			}
		})
	}
}

// The examples of the document.
func TestP8Examples(t *testing.T) {
	_, r := Check("", 0, api.Limits{})
	if r.Vars != 0 || r.Formula != "0\n" {
		t.Errorf("P8: the empty text, 0: %d variables, %q", r.Vars, r.Formula)
	}
	_, r = Check("", 1, api.Limits{})
	want := text("-1 0/-2 0/-3 0/-4 0/-5 0/-6 0/7 0/-8 0/-9 0/-10 0/-11 0/-12 0/-13 0/14 0/")
	for i := 1; i <= 7; i++ {
		want += fmt.Sprintf("-%d %d %d 0\n-%d -%d -%d 0\n%d -%d %d 0\n%d %d -%d 0\n", 14+i, i, 7+i, 14+i, i, 7+i, 14+i, i, 7+i, 14+i, i, 7+i)
	}
	want += "15 16 17 18 19 20 21 0\n"
	if r.Vars != 21 || r.Formula != want {
		t.Errorf("P8: the empty text, 1: %d variables, %q", r.Vars, r.Formula)
	}
	f := formulaOf(t, "secret a\nout a\n", 1)
	values, ok := f.follows([]int{-1, 2, -3, -4, 5, -6, -7, 8})
	if told := []int{-1, 1, -1, -1, 1, 1, -1, 1, -1, -1, 1, 1, 1, -1}; !ok || !slices.Equal(values[9:23], told) {
		t.Errorf("P8: of the runs of 2 and 9 is told %v, want %v", values[9:23], told)
	}
}

func TestP8NoneBesideReject(t *testing.T) {
	for _, c := range []struct {
		s string
		k int
		l api.Limits
		r api.Report
	}{
		{"secret a\nout a\n", 11, api.Limits{}, api.Report{}},
		{"secret a\nout a\n", -1, api.Limits{}, api.Report{}},
		{"secret a\nout a\n", 1, api.Limits{Nodes: -1}, api.Report{}},
		{"secret a\nout a\n", 1, api.Limits{Conflicts: 1 << 21}, api.Report{}},
		{"secret a\nout b\n", 1, api.Limits{}, api.Report{Line: 2}},
		{strings.Repeat("out 1\n", 101), 1, api.Limits{}, api.Report{Line: 1}},
	} {
		if v, r := Check(c.s, c.k, c.l); v != api.Reject || !reflect.DeepEqual(r, c.r) {
			t.Errorf("P5: Check(%q, %d, %v) = %d, %v", c.s, c.k, c.l, v, r)
		}
	}
}
