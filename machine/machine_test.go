package machine

import (
	"slices"
	"strings"
	"testing"

	"leaks/api"
	"leaks/source"
)

// bits: the bits of a word, the lowest first.
func bits(a int) [4]bool {
	return [4]bool{a%2 == 1, a/2%2 == 1, a/4%2 == 1, a/8 == 1}
}

func word(b [4]bool) int {
	n := 0
	for i, power := range []int{1, 2, 4, 8} {
		if b[i] {
			n += power
		}
	}
	return n
}

// bitwise: what the operations make of words, bit by bit and by counting.
func bitwise(op, a, b int) int {
	x, y := bits(a), bits(b)
	var z [4]bool
	switch op {
	case api.Move:
		return a
	case api.Add:
		return (a + b) % 16
	case api.Sub:
		return (a + 16 - b) % 16
	case api.Mul:
		return a * b % 16
	case api.Less, api.Same:
		z[0] = op == api.Less && a < b || op == api.Same && a == b
		return word(z)
	}
	for i := range z {
		switch op {
		case api.And:
			z[i] = x[i] && y[i]
		case api.Or:
			z[i] = x[i] || y[i]
		case api.Xor:
			z[i] = x[i] != y[i]
		case api.Shl:
			z[i] = i-b >= 0 && x[i-b]
		case api.Shr:
			z[i] = i+b < 4 && x[i+b]
		}
	}
	return word(z)
}

func TestP2Operations(t *testing.T) {
	for op := api.Move; op <= api.Same; op++ {
		for a := 0; a < api.Values; a++ {
			for b := 0; b < api.Values; b++ {
				if n := Apply(op, a, b); n != bitwise(op, a, b) {
					t.Errorf("P2: operation %d of %d and %d = %d, want %d", op, a, b, n, bitwise(op, a, b))
				}
			}
		}
	}
}

func TestP4Tell(t *testing.T) {
	p, wrong := source.Read(strings.ReplaceAll("public n/secret a/array t 3/while n/n = n - 1/store t n a/end/load a t 3/out a/", "/", "\n"))
	if wrong != 0 {
		t.Fatalf("P3: line %d", wrong)
	}
	for _, c := range []struct {
		in   []int
		want []int
	}{
		{[]int{0, 5}, []int{16, 35, 80, 80, 80, 80}},
		{[]int{1, 5}, []int{17, 0, 32, 16, 35, 80}},
		{[]int{4, 5}, []int{17, 0, 35, 80, 80, 80}},
	} {
		if told := Tell(p, c.in, 6); !slices.Equal(told, c.want) {
			t.Errorf("P4: Tell of %v = %v, want %v", c.in, told, c.want)
		}
	}
}

// Programs and inputs that no reading makes: Tell must bear them, too.
func TestP1NoPanic(t *testing.T) {
	numbers := []int{-1, 0, 1, 2, 3, 4, 5, 7, 99}
	for kind := -1; kind <= source.While+1; kind++ {
		for _, n := range numbers {
			for _, index := range numbers {
				for _, cells := range [][]int{nil, {99}, {99, 99}, {99, 99, 99}} {
					for _, named := range []bool{false, true} {
						a := source.Atom{Named: named, Value: index}
						s := source.Statement{Kind: kind, Op: n, Slot: n, Array: n, A: a, B: a, Next: n, Else: n}
						p := source.Program{Cells: cells, Code: []source.Statement{s, s}}
						if told := Tell(p, make([]int, 20), 5); len(told) != 5 {
							t.Errorf("P1: %v: told %v", s, told)
						}
					}
				}
			}
		}
	}
}
