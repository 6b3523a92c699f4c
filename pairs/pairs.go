// Package pairs looks for two runs whose public inputs are the same and that tell differently (P6, P7).
package pairs

import (
	"leaks/api"
	"leaks/machine"
	"leaks/source"
)

// Pair: the inputs of two runs, and the first step at which these tell differently.
type Pair struct {
	First, Second []int
	At            int
}

// Find gives two runs that tell differently within k steps, and true; or an empty pair and false, if no two do.
// Of all such pairs it gives one that tells differently earliest. It is enough to hold each run against the one whose secrets are all 0: as long as all agree with that one, any two agree with each other.
func Find(p source.Program, k int) (Pair, bool) {
	var found Pair
	publics := rows(p, false)
	secrets := rows(p, true)
	alike := k // all runs that were looked at agree ahead of this step
	for i := 0; i < publics; i++ {
		first := inputs(p, i, 0)
		told := machine.Tell(p, first, alike)
		for j := 1; j < secrets && alike > 0; j++ {
			second := inputs(p, i, j)
			other := machine.Tell(p, second, alike)
			at := agree(told, other)
			if at < alike {
				alike = at
				found = Pair{First: first, Second: second, At: at}
			}
		}
	}
	return found, alike < k
}

// rows counts the values that all secret inputs, or all public ones, can have together.
func rows(p source.Program, secret bool) int {
	n := 1
	for _, is := range p.Secret {
		if is == secret {
			n *= api.Values
		}
	}
	return n
}

// inputs deals the numbers of a row of public values and of a row of secret ones out to the inputs in their order.
func inputs(p source.Program, public, secret int) []int {
	in := []int{}
	for _, is := range p.Secret {
		if is {
			in = append(in, secret%api.Values)
			secret /= api.Values
			continue
		}
		in = append(in, public%api.Values)
		public /= api.Values
	}
	return in
}

// agree counts the steps, from the first on, at which two runs tell the same.
func agree(a, b []int) int {
	n := 0
	for n < len(a) && n < len(b) && a[n] == b[n] {
		n++
	}
	return n
}
