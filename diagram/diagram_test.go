package diagram

import (
	"reflect"
	"slices"
	"strings"
	"testing"

	"leaks/machine"
	"leaks/source"
)

var programs = []string{
	"",
	"out 5/",
	"secret a/",
	"secret a/out a/",
	"public a/while a/a = a - 1/end/",
	"secret a/secret b/var m/m = a < b/if m/out a/end/",
	"secret a/public b/var m/m = a + b/out m/m = m - a/out m/",
	"public i/secret a/public j/var x/array t 3/store t i a/load x t j/out x/",
	"secret a/secret b/secret c/a = a * b/a = a ^ c/b = b * a/c = c - b/out a/out b/out c/",
}

// each calls f with each program and its diagram of 8 steps.
func each(t *testing.T, f func(s string, p source.Program, d Diagram)) {
	for _, s := range programs {
		p, wrong := source.Read(strings.ReplaceAll(s, "/", "\n"))
		if wrong != 0 {
			t.Fatalf("P3: %q: line %d", s, wrong)
		}
		d, ok := Of(p, 8, 0)
		if !ok {
			t.Fatalf("P10: %q: too many nodes, without a limit", s)
		}
		f(s, p, d)
	}
}

// walk goes down from a node as the inputs decide.
func walk(d Diagram, node int, in []int) int {
	for node > True {
		n := d.Nodes[node]
		node = n.Low
		if in[n.Bit/4]>>(n.Bit%4)&1 == 1 {
			node = n.High
		}
	}
	return node
}

func TestP8SaysWhatIsTold(t *testing.T) {
	each(t, func(s string, p source.Program, d Diagram) {
		if len(d.Told) != 8*7 {
			t.Fatalf("P8: %q: %d bits are told", s, len(d.Told))
		}
		for n := 0; n < 1<<(4*len(p.Secret)); n++ {
			in := []int{n & 15, n >> 4 & 15, n >> 8}[:len(p.Secret)]
			for step, number := range machine.Tell(p, in, 8) {
				for bit := range 7 {
					if walk(d, d.Told[7*step+bit], in) != number>>bit&1 {
						t.Fatalf("P8: %q: inputs %v, step %d tells %d; bit %d is another", s, in, step, number, bit)
					}
				}
			}
		}
	})
}

func TestP8NoNodeTwice(t *testing.T) {
	each(t, func(s string, p source.Program, d Diagram) {
		seen := map[Node]bool{}
		used := map[int]bool{}
		for _, node := range d.Told {
			used[node] = true
		}
		for i := len(d.Nodes) - 1; i > True; i-- {
			n := d.Nodes[i]
			if seen[n] || !used[i] || n.Low == n.High || n.Low >= i || n.High >= i || n.Low < 0 || n.High < 0 {
				t.Errorf("P8: %q: node %d is %v, used %v, seen %v", s, i, n, used[i], seen[n])
			}
			seen[n], used[n.Low], used[n.High] = true, true, true
		}
	})
}

// Node by node: what no secret bit stands in hangs on no secret, and what one stands in does.
func TestP8Secret(t *testing.T) {
	each(t, func(s string, p source.Program, d Diagram) {
		var hangs func(node int) bool
		hangs = func(node int) bool {
			n := d.Nodes[node]
			return node > True && (p.Secret[n.Bit/4] || hangs(n.Low) || hangs(n.High))
		}
		for i, n := range d.Nodes {
			if n.Secret != hangs(i) {
				t.Errorf("P8: %q: node %d is %v", s, i, n)
			}
		}
	})
}

// However it is computed: the same function, the same node.
func TestP8SameNode(t *testing.T) {
	p, _ := source.Read("secret a\npublic b\nvar x\nx = a | b\nx = x - a\nx = x + a\nx = x & b\nout x\nout b\n")
	d, _ := Of(p, 6, 0)
	if told := d.Told[4*7 : 5*7]; !slices.Equal(told, d.Told[5*7:]) || d.Nodes[told[0]].Secret {
		t.Errorf("P8: %v", d)
	}
}

func TestP8NoSteps(t *testing.T) {
	each(t, func(s string, p source.Program, _ Diagram) {
		if d, _ := Of(p, 0, 0); len(d.Told) != 0 || len(d.Nodes) != 2 {
			t.Errorf("P8: %q: %v", s, d)
		}
	})
}

// A limit is met at just as many nodes as there are, and no node more; then there is no diagram.
func TestP10Nodes(t *testing.T) {
	each(t, func(s string, p source.Program, whole Diagram) {
		n := whole.Decisions()
		if n != len(whole.Nodes)-2 {
			t.Fatalf("P10: %q: %d nodes of %d decide", s, n, len(whole.Nodes))
		}
		for most := 1; most <= n+2; most++ {
			d, ok := Of(p, 8, most)
			if ok != (most >= n) {
				t.Fatalf("P10: %q: Of with at most %d of %d nodes: %v", s, most, n, ok)
			}
			want := Diagram{}
			if ok {
				want = whole
			}
			if !reflect.DeepEqual(d, want) {
				t.Fatalf("P10: %q: with at most %d of %d nodes: %v", s, most, n, d)
			}
			if most == 5 && n > 20 {
				most = n - 5
			}
		}
	})
}

// With one chain all nodes fall together, and yet each is found again, and no other.
func TestP8OneChain(t *testing.T) {
	m := begin(source.Program{Secret: []bool{true}}, nil, 1)
	numbers := map[[3]int]int{}
	for round := range 2 {
		for bit := range 4 {
			for low := range 4 {
				for high := range 4 {
					n := m.node(bit, low, high)
					if low == high {
						if n != low {
							t.Errorf("P8: node(%d, %d, %d) = %d", bit, low, high, n)
						}
						continue
					}
					if want := (Node{Bit: bit, Low: low, High: high, Secret: true}); m.nodes[n] != want {
						t.Errorf("P8: node(%d, %d, %d) = %d, which is %v", bit, low, high, n, m.nodes[n])
					}
					if key := [3]int{bit, low, high}; round == 0 {
						numbers[key] = n
					} else if numbers[key] != n {
						t.Errorf("P8: node(%d, %d, %d) = %d, before %d", bit, low, high, n, numbers[key])
					}
				}
			}
		}
	}
}
