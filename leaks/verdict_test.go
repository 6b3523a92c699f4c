package leaks

import (
	"fmt"
	"math/rand"
	"reflect"
	"regexp"
	"slices"
	"strings"
	"testing"

	"leaks/api"
)

// secrets: of each input of a program whether it is secret.
func secrets(s string) []bool {
	var l []bool
	for _, line := range strings.Split(s, "\n") {
		if strings.HasPrefix(line, "secret ") || strings.HasPrefix(line, "public ") {
			l = append(l, line[0] == 's')
		}
	}
	return l
}

// everyInput calls f with all values of n inputs, one after another.
func everyInput(n int, f func(in []int)) {
	in := make([]int, n)
	for {
		f(in)
		i := 0
		for i < n && in[i] == 15 {
			in[i] = 0
			i++
		}
		if i == n {
			return
		}
		in[i]++
	}
}

// referenceLeak gives the first step at which two runs with the same public inputs tell differently, or -1: it counts the different beginnings of what the runs with the same public inputs tell.
func referenceLeak(s string) int {
	const k = api.MaxK
	secret := secrets(s)
	var beginnings [k]map[string]string
	leak := k
	everyInput(len(secret), func(in []int) {
		public := ""
		for i, value := range in {
			if !secret[i] {
				public += fmt.Sprint(value, " ")
			}
		}
		beginning := ""
		for i, number := range referenceRun(s, in, k) {
			if beginnings[i] == nil {
				beginnings[i] = map[string]string{}
			}
			beginning += fmt.Sprint(number, " ")
			if before, seen := beginnings[i][public]; seen && before != beginning {
				leak = min(leak, i)
			}
			beginnings[i][public] = beginning
		}
	})
	if leak == k {
		return -1
	}
	return leak
}

// verdicts holds Check to what it must answer for all k, if at is the first step at which a secret is told (-1: there is none).
func verdicts(t *testing.T, s string, at int) {
	t.Helper()
	for k := 0; k <= api.MaxK; k++ {
		want := api.Secure
		if at >= 0 && k > at {
			want = api.Insecure
		}
		v, r := Check(s, k, api.Limits{})
		if v != want || r.Line != 0 {
			t.Errorf("P6: Check(%q, %d) = %d, line %d, want %d", s, k, v, r.Line, want)
			return
		}
		if v == api.Secure && (len(r.First) != 0 || len(r.Second) != 0 || r.At != 0) {
			t.Errorf("P7: Check(%q, %d) is Secure with the runs %v, %v, at %d", s, k, r.First, r.Second, r.At)
		}
		if v == api.Insecure {
			twoRuns(t, s, k, r)
		}
	}
}

// twoRuns: do the runs of a report tell differently, and at that step first?
func twoRuns(t *testing.T, s string, k int, r api.Report) {
	t.Helper()
	secret := secrets(s)
	if len(r.First) != len(secret) || len(r.Second) != len(secret) || r.At < 0 || r.At >= k {
		t.Errorf("P7: Check(%q, %d): %v, %v, at %d", s, k, r.First, r.Second, r.At)
		return
	}
	for i := range secret {
		if !secret[i] && r.First[i] != r.Second[i] {
			t.Errorf("P7: Check(%q, %d): the public inputs of %v and %v differ", s, k, r.First, r.Second)
		}
		if r.First[i] < 0 || r.First[i] > 15 || r.Second[i] < 0 || r.Second[i] > 15 {
			t.Errorf("P7: Check(%q, %d): %v, %v: not all are words", s, k, r.First, r.Second)
		}
	}
	a, b := referenceRun(s, r.First, k), referenceRun(s, r.Second, k)
	if !slices.Equal(a[:r.At], b[:r.At]) || a[r.At] == b[r.At] {
		t.Errorf("P7: Check(%q, %d): %v, %v, at %d: %v, %v", s, k, r.First, r.Second, r.At, a, b)
	}
}

// known: a program, and the first step at which a secret is told; -1: there is none.
type known struct {
	s  string
	at int
}

var examples = []known{
	{"secret a/if a/end/", 0},
	{"public a/if a/end/", -1},
	{"secret a/var x/x = a * a/", -1},
	{"secret i/var x/array t 4/load x t i/", 0},
	{"secret i/var x/array t 4/store t 0 i/load x t 0/if x/end/", 2},
	{"secret a/var m/m = a ^ a/out m/", -1},
	{"secret a/secret b/var m/m = a < b/if m/end/", 1},
	{"secret a/var x/array t 2/x = a >> 3/load x t 2/out a/", -1},
	{"public n/secret a/while n/n = n - 1/a = a + a/end/out 3/", -1},
	{"secret a/out a/", 0},
}

var byBranch = []known{
	{"secret a/while a/end/", 0},
	{"secret a/while a/a = 0/end/", 0},
	{"public b/secret a/if b/if a/end/end/", 1},
	{"public b/secret a/if b/else/while a/end/end/", 1},
	{"public b/public c/secret a/if b/if c/if a/end/end/end/", 2},
	{"secret a/var x/x = a == 15/if x/end/", 1},
	{"secret a/var x/x = a >> 3/x = x + 1/x = x >> 1/while x/x = 0/end/", 3},
	{"secret a/var x/var y/if 1/x = a & 4/y = x & 3/if y/end/while x/end/end/", 4},
	{"out 1/out 2/out 3/out 4/out 5/out 6/out 7/out 8/out 9/", -1},
	{"secret a/out 1/out 2/out 3/out 4/out 5/out 6/out 7/out 8/out 9/if a/end/", 9},
	{"secret a/out 1/out 2/out 3/out 4/out 5/out 6/out 7/out 8/out 9/out 10/if a/end/", -1},
	{"secret a/var n/n = 3/while n/n = n - 1/end/if a/end/", 8},
	{"secret a/var n/n = 4/while n/n = n - 1/end/if a/end/", -1},
}

var byIndex = []known{
	{"secret a/array t 1/store t a 1/", 0},
	{"secret a/var x/array t 4/a = a & 3/load x t a/", 1},
	{"secret a/array t 2/a = a & 1/store t a a/", 1},
	{"secret a/array t 2/a = a & 1/a = a << 1/store t a 1/out 1/", 2},
	{"secret a/var x/array t 2/a = a & 1/a = a | 14/load x t a/out 1/", 2},
	{"secret a/var x/array t 2/load x t 1/load x t 2/load x t a/", -1},
	{"secret a/var x/array t 4/array u 4/store u 1 a/load x t 1/store t x 1/load x u 1/store t x 1/", 4},
	{"public i/secret a/var x/array t 4/store t i a/load x t 3/load x t x/", 2},
	{"public i/secret a/var x/array t 3/store t i a/load x t 3/load x t x/", -1},
}

var byOutput = []known{
	{"secret a/public b/out b/out a/", 1},
	{"public b/secret a/b = a/out b/", 1},
	{"secret a/var x/x = a & 8/out x/", 1},
	{"secret a/secret b/var x/x = a ^ b/out x/", 1},
	{"secret a/secret b/secret c/var x/x = a ^ b/x = x ^ c/out x/", 2},
	{"secret a/var x/array t 4/store t 3 a/load x t 3/out x/", 2},
	{"public b/secret a/array t 2/store t b 0/out a/", 1},
	{"secret a/var x/while 1/out x/x = a/end/", 4},
	{"secret a/public b/if b/out 1/else/out a/end/", 1},
}

var silent = []known{
	{"secret a/", -1},
	{"secret a/secret b/secret c/", -1},
	{"secret a/a = a + 1/", -1},
	{"secret a/a = 7/out a/if a/end/", -1},
	{"secret a/public b/a = b/out a/", -1},
	{"secret a/var x/x = a - a/out x/x = a < a/out x/x = a == a/out x/x = a & 0/out x/", -1},
	{"secret a/var x/x = a << 4/out x/x = a >> 4/out x/x = a * 0/out x/x = a | 15/out x/", -1},
	{"secret a/secret b/var x/x = a ^ b/x = x ^ a/x = x ^ b/out x/", -1},
	{"secret a/secret b/var x/var y/x = a + b/y = b + a/x = x == y/if x/out x/else/out a/end/", -1},
	{"secret a/var x/array t 4/store t 0 a/load x t 1/out x/", -1},
	{"secret a/var x/array t 4/array u 4/store t 0 a/load x u 0/out x/", -1},
	{"secret a/var x/array t 4/store t 0 a/store t 0 5/load x t 0/out x/", -1},
	{"secret a/array t 4/store t 4 a/out a/", -1},
	{"secret a/if 0/out a/end/while 0/out a/end/", -1},
	{"secret a/while 1/end/out a/", -1},
	{"public b/secret a/var x/x = b * b/x = x & 2/if x/out a/end/", -1},
	{"public b/secret a/var x/x = b + 1/x = x * b/x = x & 1/if x/out a/end/", -1},
}

var without = []known{
	{"", -1},
	{"out 3/", -1},
	{"var x/x = x + 1/out x/while x/x = x + 3/out x/end/", -1},
	{"array t 2/store t 1 5/store t 2 5/out 1/", -1},
	{"public a/out a/if a/out a/end/while a/a = a - 1/end/", -1},
	{"public a/public b/public c/var x/array t 4/load x t a/store t b c/out c/", -1},
}

func TestP6P7Known(t *testing.T) {
	for _, l := range [][]known{examples, byBranch, byIndex, byOutput, silent, without} {
		for _, c := range l {
			s := text(c.s)
			if at := referenceLeak(s); at != c.at {
				t.Errorf("%q is told to leak at %d, but leaks at %d", c.s, c.at, at)
			}
			verdicts(t, s, c.at)
		}
	}
}

// Of one, two and three inputs, secret and public in any order, one value each in a great many that tells.
func TestP6P7OneValueOfMany(t *testing.T) {
	for _, kinds := range []string{"s", "p", "ss", "sp", "ps", "pp", "sss", "ssp", "sps", "spp", "pss", "psp", "pps", "ppp"} {
		for _, values := range [][]int{{0, 0, 0}, {15, 15, 15}, {0, 15, 7}, {9, 0, 15}, {15, 1, 0}} {
			declared, stated := "", "m = 1\n"
			for i, kind := range kinds {
				name := string(rune('a' + i))
				declared += map[rune]string{'s': "secret ", 'p': "public "}[kind] + name + "\n"
				stated += fmt.Sprintf("n = %s == %d\nm = m & n\n", name, values[i])
			}
			for _, last := range []string{"out m\n", "if m\nend\n", "load n t m\n", "store t m 1\n"} {
				at := -1
				if strings.Contains(kinds, "s") {
					at = 1 + 2*len(kinds)
				}
				verdicts(t, declared+"var m\nvar n\narray t 1\n"+stated+last, at)
			}
		}
	}
}

// Each value of a secret, and of a public input, may be the one that tells.
func TestP6P7EachValue(t *testing.T) {
	for value := 0; value < 16; value++ {
		s := fmt.Sprintf("secret a\nvar m\nm = a == %d\nif m\nout a\nelse\nend\n", value)
		verdicts(t, s, 1)
		s = fmt.Sprintf("public b\nsecret a\nvar m\nm = b == %d\nif m\nout a\nend\n", value)
		verdicts(t, s, 2)
	}
}

func TestP6P7ByChance(t *testing.T) {
	m := maker{chance: rand.New(rand.NewSource(5))}
	leaky, late, secure := 0, 0, 0
	for i := 0; i < 1500; i++ {
		s, inputs := m.program()
		if inputs == 3 && i%10 != 0 {
			continue
		}
		at := referenceLeak(s)
		verdicts(t, s, at)
		if at >= 0 {
			leaky++
		} else if slices.Contains(secrets(s), true) {
			secure++
		}
		if at > 1 {
			late++
		}
	}
	if leaky < 50 || late < 20 || secure < 50 {
		t.Errorf("%d programs leak, %d of them late, %d with a secret do not: too few of some kind to tell much", leaky, late, secure)
	}
}

var nameAlone = regexp.MustCompile(`\b[a-z]\b`)

// renamed turns each name into another one, different ones into different ones.
func renamed(s string, letters []int) string {
	return nameAlone.ReplaceAllStringFunc(s, func(name string) string {
		return string(rune('a' + letters[name[0]-'a']))
	})
}

func TestP6OtherNames(t *testing.T) {
	m := maker{chance: rand.New(rand.NewSource(6))}
	var texts []string
	for _, l := range [][]known{examples, byBranch, byIndex, byOutput, silent, without} {
		for _, c := range l {
			texts = append(texts, text(c.s))
		}
	}
	for i := 0; i < 100; i++ {
		s, _ := m.program()
		texts = append(texts, s)
	}
	for _, s := range texts {
		backward := make([]int, 26)
		for i := range backward {
			backward[i] = 25 - i
		}
		for _, letters := range [][]int{backward, m.chance.Perm(26)} {
			other := renamed(s, letters)
			k := m.chance.Intn(api.MaxK + 1)
			v, r := Check(s, k, api.Limits{})
			if v2, r2 := Check(other, k, api.Limits{}); v != v2 || !reflect.DeepEqual(r, r2) {
				t.Errorf("P6: Check(%q, %d) = %d, %v; with other names, %q: %d, %v", s, k, v, r, other, v2, r2)
			}
		}
	}
}

func TestP1CheckAskedAgain(t *testing.T) {
	m := maker{chance: rand.New(rand.NewSource(7))}
	for i := 0; i < 200; i++ {
		s, _ := m.program()
		v, r := Check(s, 10, api.Limits{})
		if v2, r2 := Check(s, 10, api.Limits{}); v != v2 || !reflect.DeepEqual(r, r2) {
			t.Errorf("P1: Check(%q) = %d, %v, then %d, %v", s, v, r, v2, r2)
		}
	}
}

// written fills a list and its spare room.
func written(l []int) {
	l = l[:cap(l)]
	for i := range l {
		l[i] = 99
	}
}

func TestP1CheckOwned(t *testing.T) {
	for _, c := range []string{"secret a/out a/", "public b/secret a/out a/", "secret a/public b/secret c/var m/m = a ^ c/m = m & b/out m/"} {
		s := text(c)
		_, want := Check(s, 10, api.Limits{})
		first, second := slices.Clone(want.First), slices.Clone(want.Second)
		_, other := Check(s, 10, api.Limits{})
		written(want.First)
		if !slices.Equal(want.Second, second) {
			t.Errorf("P1: Check(%q): writing into First changed Second", s)
		}
		written(want.Second)
		_, again := Check(s, 10, api.Limits{})
		for _, r := range []api.Report{other, again} {
			if !slices.Equal(r.First, first) || !slices.Equal(r.Second, second) {
				t.Errorf("P1: Check(%q): writing into one report changed another: %v, %v", s, r.First, r.Second)
			}
		}
	}
}
