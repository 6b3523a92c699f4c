package leaks

import (
	"fmt"
	"math/rand"
	"regexp"
	"strconv"
	"strings"
	"testing"

	"leaks/api"
)

var (
	lineOfProof    = regexp.MustCompile(`^[1-9][0-9]{0,7}( -?[1-9][0-9]{0,7})* 0( [1-9][0-9]{0,7})* 0$`)
	lineOfDeletion = regexp.MustCompile(`^(0|-?[1-9][0-9]{0,7}) d( [1-9][0-9]{0,7})* 0$`)
)

// prover: the clauses that are there, by their numbers; next is the next number that is free.
type prover struct {
	vars    int
	clauses map[int][]int
	next    int
}

// refutes holds a proof to P9, line by line.
func (f formula) refutes(proof string) error {
	p := prover{vars: f.vars, clauses: map[int][]int{}, next: len(f.clauses) + 1}
	for i, clause := range f.clauses {
		p.clauses[i+1] = clause
	}
	lines := strings.Split(proof, "\n")
	if lines[len(lines)-1] != "" {
		return fmt.Errorf("the last line, %q, is not ended", lines[len(lines)-1])
	}
	lines = lines[:len(lines)-1]
	for i, line := range lines {
		empty, err := p.takes(line)
		if err != nil {
			return fmt.Errorf("line %d, %q: %w", i+1, line, err)
		}
		if empty != (i == len(lines)-1) {
			return fmt.Errorf("line %d of %d, %q: the empty clause is the last line's, and no other's", i+1, len(lines), line)
		}
	}
	if len(lines) == 0 {
		return fmt.Errorf("there is no line")
	}
	return nil
}

// takes takes a line in; it is true if the line has the empty clause.
func (p *prover) takes(line string) (bool, error) {
	if lineOfDeletion.MatchString(line) {
		words := strings.Split(line, " ")
		for _, word := range words[2 : len(words)-1] {
			n, _ := strconv.Atoi(word)
			if _, there := p.clauses[n]; !there {
				return false, fmt.Errorf("clause %d is not there", n)
			}
			delete(p.clauses, n)
		}
		return false, nil
	}
	if !lineOfProof.MatchString(line) {
		return false, fmt.Errorf("it is no line of a proof")
	}
	number, rest, _ := strings.Cut(line, " ")
	clause, hints := []int{}, []int{}
	part := &clause
	for _, word := range strings.Split(rest, " ") {
		n, _ := strconv.Atoi(word)
		if n == 0 {
			part = &hints
			continue
		}
		*part = append(*part, n)
	}
	if number != strconv.Itoa(p.next) {
		return false, fmt.Errorf("the next number is %d", p.next)
	}
	if err := p.follows(clause, hints); err != nil {
		return false, err
	}
	p.clauses[p.next] = clause
	p.next++
	return len(clause) == 0, nil
}

// follows: does a clause follow from its hints?
func (p *prover) follows(clause, hints []int) error {
	holds := map[int]bool{} // the literals that are true
	right := false
	for _, l := range clause {
		if max(l, -l) > p.vars {
			return fmt.Errorf("there is no variable %d", l)
		}
		right = right || holds[l]
		holds[-l] = true
	}
	for _, h := range hints {
		if right {
			return nil
		}
		hint, there := p.clauses[h]
		if !there {
			return fmt.Errorf("clause %d is not there", h)
		}
		open := map[int]bool{}
		for _, l := range hint {
			if holds[l] {
				return fmt.Errorf("clause %d has a true literal, %d", h, l)
			}
			if !holds[-l] {
				open[l] = true
			}
		}
		if len(open) > 1 {
			return fmt.Errorf("clause %d has %d literals that are not set", h, len(open))
		}
		for l := range open {
			holds[l] = true
		}
		right = len(open) == 0
	}
	if !right {
		return fmt.Errorf("the hints do not lead to a clause that is false")
	}
	return nil
}

// The checker of these tests itself: what P9 says is right, and what is not.
func TestP9Checker(t *testing.T) {
	f, err := parse(api.Report{Vars: 3, Formula: text("1 0/-1 2 0/-2 0/3 3 -2 0/")})
	if err != nil {
		t.Fatal(err)
	}
	for _, proof := range []string{
		"5 0 1 2 3 0/",
		"5 2 0 1 2 0/5 d 1 0/6 0 5 3 0/",
		"5 2 0 1 2 0/0 d 1 2 4 0/7 d 0/6 0 5 3 0/",
		"5 2 -2 0 0/6 0 1 2 3 0/",
		"5 2 -2 0 99 0/6 0 1 2 3 0/",
		"5 0 1 2 3 99 0/",
		"5 0 1 3 2 2 0/",
		"5 2 2 0 1 2 3 0/6 0 5 3 0/",
		"5 3 0 1 2 4 0/6 0 1 2 3 0/",
		"5 -1 3 0 2 4 0/6 0 1 2 3 0/",
	} {
		if err := f.refutes(text(proof)); err != nil {
			t.Errorf("P9: %q is right, but: %v", proof, err)
		}
	}
	for _, proof := range []string{
		"", "/", "5 0 1 2 3 0", "5 0 1 2 3 0//", " 5 0 1 2 3 0/", "5 0 1 2 3 0 /", "5 0  1 2 3 0/", "5 0 1 2 3/", "5 0/", "05 0 1 2 3 0/", "5 0 1 2 03 0/", "5 0 1 2 000000003 0/", "5 0 1 2 -3 0/", "5 0 1 0 2 3 0/",
		"4 0 1 2 3 0/", "6 0 1 2 3 0/", "5 0 1 2 0/", "5 0 0/", "5 0 2 1 3 0/", "5 0 1 1 2 3 0/", "5 0 1 2 5 3 0/", "5 0 1 2 9 3 0/",
		"5 2 0 1 2 0/", "5 2 0 1 2 0/5 0 5 3 0/", "5 2 0 1 2 0/7 0 5 3 0/", "5 4 -4 0 0/6 0 1 2 3 0/", "5 2 0 1 2 0/1 d 1 0/6 0 1 2 3 0/", "5 d 1 1 0/5 0 1 2 3 0/", "5 d 5 0/5 0 1 2 3 0/", "5 d 1/5 0 1 2 3 0/",
		"5 0 1 2 3 0/6 0 1 2 3 0/", "5 0 1 2 3 0/6 d 1 0/", "5 0 1 2 3 0/6 2 0 1 2 0/", "5 -2 0 4 0/6 0 1 2 3 0/",
	} {
		if err := f.refutes(text(proof)); err == nil {
			t.Errorf("P9: %q is wrong, but was taken", proof)
		}
	}
}

// proved checks that there is a right proof beside Secure, and none beside Insecure; it gives the verdict and the report.
func proved(t *testing.T, s string, k int) (int, api.Report) {
	t.Helper()
	v, r := Check(s, k, api.Limits{})
	switch v {
	case api.Secure:
		f, err := parse(r)
		if err == nil {
			err = f.refutes(r.Proof)
		}
		if err != nil {
			t.Fatalf("P9: Check(%q, %d): %v", s, k, err)
		}
	case api.Insecure:
		if r.Proof != "" {
			t.Errorf("P9: Check(%q, %d) is Insecure, with a proof, %q", s, k, r.Proof)
		}
	default:
		t.Fatalf("P10: Check(%q, %d) = %d without limits", s, k, v)
	}
	return v, r
}

func TestP9Known(t *testing.T) {
	for _, l := range [][]known{examples, byBranch, byIndex, byOutput, silent, without} {
		for _, c := range l {
			for k := 0; k <= api.MaxK; k++ {
				proved(t, text(c.s), k)
			}
		}
	}
}

// The examples of the document, word by word.
func TestP9Examples(t *testing.T) {
	if _, r := proved(t, "", 0); r.Proof != "2 0 1 0\n" {
		t.Errorf("P9: the empty text, 0: %q", r.Proof)
	}
	_, r := proved(t, "", 1)
	want := text("44 -15 0 1 8 15 0/45 -16 0 2 9 19 0/46 -17 0 3 10 23 0/47 -18 0 4 11 27 0/48 -19 0 5 12 31 0/49 -20 0 6 13 35 0/50 -21 0 7 14 40 0/51 0 44 45 46 47 48 49 50 43 0/")
	if r.Proof != want {
		t.Errorf("P9: the empty text, 1: %q, want %q", r.Proof, want)
	}
}

func TestP9ByChance(t *testing.T) {
	m := maker{chance: rand.New(rand.NewSource(12))}
	insecure, constant, public := 0, 0, 0
	for range 2000 {
		s, _ := m.program()
		k := m.chance.Intn(api.MaxK + 1)
		v, r := proved(t, s, k)
		switch {
		case v == api.Insecure:
			insecure++
		case r.Nodes == 0:
			constant++
		case strings.Contains(s, "secret"):
			public++
		}
	}
	if insecure < 100 || constant < 100 || public < 50 {
		t.Errorf("%d programs are Insecure, %d tell the same always, %d hang on public inputs beside secret ones: too few of some kind to tell much", insecure, constant, public)
	}
}

// However a bit is computed that hangs on public inputs alone: there is a proof.
func TestP9Hidden(t *testing.T) {
	for _, c := range []string{
		"secret a/public p/secret b/var m/var n/m = a * b/m = m + p/n = b * a/m = m - n/out m/if m/out p/else/out m/end/",
		"public p/secret a/public q/var m/var n/m = a & p/n = a | p/m = m + n/m = m - a/out m/m = m * q/out m/m = p < q/while m/end/",
		"secret a/secret b/secret c/var m/var n/m = a * b/m = m * c/n = c * b/n = n * a/m = m ^ n/out m/",
		"secret a/secret b/secret c/var m/var n/m = b + c/m = a * m/n = a * b/m = m - n/n = a * c/m = m - n/if m/out a/end/",
		"public p/secret a/secret b/array t 4/p = p & 3/store t p a/store t p p/load b t p/out b/while b/b = b - 1/end/",
		"public p/public q/secret a/array t 2/store t p a/store t q 3/load a t p/a = p == q/out a/",
		"public p/public q/public r/var m/m = p * q/m = m ^ r/out m/p = p * m/out p/q = q - p/out q/m = m * q/if m/out m/end/",
	} {
		if at := referenceLeak(text(c)); at >= 0 {
			t.Errorf("%q leaks at %d", c, at)
		}
		for k := 0; k <= api.MaxK; k++ {
			if v, _ := proved(t, text(c), k); v != api.Secure {
				t.Errorf("P6: Check(%q, %d) = %d", c, k, v)
			}
		}
	}
}
