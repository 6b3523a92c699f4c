package leaks

import (
	"math/rand"
	"regexp"
	"strconv"
	"strings"
)

// A second reading and running of programs, made from the document's words in another way (patterns, maps and trees), to hold the program's own against.

const (
	patternAtom = `([a-z]|[0-9]|1[0-5])`
	patternOp   = `(\+|-|\*|&|\||\^|<<|>>|<|==)`
)

// shapes: of each statement a pattern, and what each of its groups must be: s the name of an input or a variable, t that of an array, a an atom, o an operation.
var shapes = []struct {
	pattern *regexp.Regexp
	groups  string
}{
	{regexp.MustCompile(`^([a-z]) = ` + patternAtom + `$`), "sa"},
	{regexp.MustCompile(`^([a-z]) = ` + patternAtom + ` ` + patternOp + ` ` + patternAtom + `$`), "saoa"},
	{regexp.MustCompile(`^load ([a-z]) ([a-z]) ` + patternAtom + `$`), "sta"},
	{regexp.MustCompile(`^store ([a-z]) ` + patternAtom + ` ` + patternAtom + `$`), "taa"},
	{regexp.MustCompile(`^out ` + patternAtom + `$`), "a"},
	{regexp.MustCompile(`^if ` + patternAtom + `$`), "a"},
	{regexp.MustCompile(`^while ` + patternAtom + `$`), "a"},
}

var declaration = regexp.MustCompile(`^(?:(secret|public|var) ([a-z])|(array) ([a-z]) [1-4])$`)

type checker struct {
	kinds      map[string]string
	counts     map[string]int
	statements int
	open       []string
}

// referenceLine gives the wrong line of a text of at most 600 bytes, or 0.
func referenceLine(s string) int {
	lines := strings.SplitAfter(s, "\n")
	lines = lines[:len(lines)-1]
	c := checker{kinds: map[string]string{}, counts: map[string]int{}}
	for i, line := range lines {
		if !c.stands(strings.TrimSuffix(line, "\n")) {
			return i + 1
		}
	}
	if s != strings.Join(lines, "") || len(c.open) > 0 {
		return len(lines) + 1
	}
	return 0
}

func (c *checker) stands(line string) bool {
	if m := declaration.FindStringSubmatch(line); m != nil {
		return c.declares(m[1]+m[3], m[2]+m[4])
	}
	top := ""
	if len(c.open) > 0 {
		top = c.open[len(c.open)-1]
	}
	switch line {
	case "else":
		if top != "if" {
			return false
		}
		c.open[len(c.open)-1] = "else"
		return true
	case "end":
		if top == "" {
			return false
		}
		c.open = c.open[:len(c.open)-1]
		return true
	}
	return c.states(line)
}

func (c *checker) declares(kind, name string) bool {
	if c.statements > 0 || c.kinds[name] != "" {
		return false
	}
	most := map[string]int{"input": 3, "var": 4, "array": 2}
	if kind == "secret" || kind == "public" {
		kind = "input"
		if c.counts["var"] > 0 {
			return false
		}
	}
	c.kinds[name] = kind
	c.counts[kind]++
	return c.counts[kind] <= most[kind]
}

func (c *checker) states(line string) bool {
	for _, shape := range shapes {
		m := shape.pattern.FindStringSubmatch(line)
		if m == nil {
			continue
		}
		for i, group := range shape.groups {
			kind := c.kinds[m[i+1]]
			slot := kind == "input" || kind == "var"
			digit := m[i+1][0] >= '0' && m[i+1][0] <= '9'
			if group == 's' && !slot || group == 't' && kind != "array" || group == 'a' && !slot && !digit {
				return false
			}
		}
		c.statements++
		if first := strings.Fields(line)[0]; first == "if" || first == "while" {
			c.open = append(c.open, first)
		}
		return c.statements <= 12 && len(c.open) <= 4
	}
	return false
}

// node: a statement; of if and while with the statements inside.
type node struct {
	words      []string
	then, also []node
}

// tree gives the statements up to the end or else that closes them, and the lines from that one on.
func tree(lines []string) ([]node, []string) {
	var nodes []node
	for len(lines) > 0 && lines[0] != "end" && lines[0] != "else" {
		n := node{words: strings.Fields(lines[0])}
		lines = lines[1:]
		if n.words[0] == "if" || n.words[0] == "while" {
			n.then, lines = tree(lines)
			if lines[0] == "else" {
				n.also, lines = tree(lines[1:])
			}
			lines = lines[1:]
		}
		nodes = append(nodes, n)
	}
	return nodes, lines
}

type walker struct {
	k       int
	told    []int
	trapped bool
	words   map[string]int
	arrays  map[string][]int
}

// referenceRun runs a program.
func referenceRun(s string, in []int, k int) []int {
	w := walker{k: k, words: map[string]int{}, arrays: map[string][]int{}}
	lines := strings.Split(strings.TrimSuffix(s, "\n"), "\n")
	for len(lines) > 0 {
		words := strings.Fields(lines[0])
		if len(words) == 0 {
			break
		}
		if words[0] == "secret" || words[0] == "public" {
			w.words[words[1]] = in[0]
			in = in[1:]
		} else if words[0] == "array" {
			n, _ := strconv.Atoi(words[2])
			w.arrays[words[1]] = make([]int, n)
		} else if words[0] != "var" {
			break
		}
		lines = lines[1:]
	}
	if len(lines) > 0 && lines[0] != "" {
		nodes, _ := tree(lines)
		w.walk(nodes)
	}
	for len(w.told) < k {
		if w.trapped {
			w.told = append(w.told, 80)
		} else {
			w.told = append(w.told, 64)
		}
	}
	return w.told
}

func (w *walker) walk(nodes []node) {
	for _, n := range nodes {
		if w.trapped || len(w.told) >= w.k {
			return
		}
		switch n.words[0] {
		case "if":
			if w.asks(n) {
				w.walk(n.then)
			} else {
				w.walk(n.also)
			}
		case "while":
			for !w.trapped && len(w.told) < w.k && w.asks(n) {
				w.walk(n.then)
			}
		default:
			w.carry(n.words)
		}
	}
}

func (w *walker) asks(n node) bool {
	if w.value(n.words[1]) == 0 {
		w.told = append(w.told, 16)
		return false
	}
	w.told = append(w.told, 17)
	return true
}

func (w *walker) carry(words []string) {
	switch words[0] {
	case "out":
		w.told = append(w.told, 48+w.value(words[1]))
	case "load":
		cells, i := w.arrays[words[2]], w.value(words[3])
		w.told = append(w.told, 32+i)
		if w.trapped = i >= len(cells); !w.trapped {
			w.words[words[1]] = cells[i]
		}
	case "store":
		cells, i := w.arrays[words[1]], w.value(words[2])
		w.told = append(w.told, 32+i)
		if w.trapped = i >= len(cells); !w.trapped {
			cells[i] = w.value(words[3])
		}
	default:
		w.told = append(w.told, 0)
		result := w.value(words[2])
		if len(words) == 5 {
			result = referenceOp(words[3], result, w.value(words[4]))
		}
		w.words[words[0]] = result
	}
}

func (w *walker) value(atom string) int {
	if n, err := strconv.Atoi(atom); err == nil {
		return n
	}
	return w.words[atom]
}

func referenceOp(op string, a, b int) int {
	results := map[string]int{"+": (a + b) % 16, "-": (a - b + 16) % 16, "*": a * b % 16, "&": a & b, "|": a | b, "^": a ^ b, "<<": (a << b) % 16, ">>": a >> b}
	if op == "<" && a < b || op == "==" && a == b {
		return 1
	}
	return results[op]
}

// maker makes programs by chance; begun with the same seed it makes the same ones.
type maker struct {
	chance       *rand.Rand
	slots        []string
	arrays       []string
	lines        []string
	left, inputs int
}

func (m *maker) pick(l ...string) string { return l[m.chance.Intn(len(l))] }

func (m *maker) atom() string {
	if len(m.slots) > 0 && m.chance.Intn(4) > 0 {
		return m.pick(m.slots...)
	}
	return strconv.Itoa(m.chance.Intn(16))
}

// index: mostly one that an array may have.
func (m *maker) index() string {
	if m.chance.Intn(2) == 0 {
		return strconv.Itoa(m.chance.Intn(4))
	}
	return m.atom()
}

// program makes a program with its number of inputs.
func (m *maker) program() (string, int) {
	*m = maker{chance: m.chance, left: m.chance.Intn(13), inputs: m.chance.Intn(4)}
	letters := m.chance.Perm(26)
	name := func() string {
		l := string(rune('a' + letters[0]))
		letters = letters[1:]
		return l
	}
	for i := 0; i < m.inputs; i++ {
		m.slots = append(m.slots, name())
		m.lines = append(m.lines, m.pick("secret ", "public ")+m.slots[i])
	}
	for i := m.chance.Intn(5); i > 0; i-- {
		v := name()
		m.slots = append(m.slots, v)
		m.lines = append(m.lines, "var "+v)
	}
	for i := m.chance.Intn(3); i > 0; i-- {
		t := name()
		m.arrays = append(m.arrays, t)
		at := m.chance.Intn(len(m.lines) + 1)
		m.lines = append(m.lines[:at:at], append([]string{"array " + t + " " + m.pick("1", "2", "3", "4")}, m.lines[at:]...)...)
	}
	m.block(0)
	if len(m.lines) == 0 {
		return "", 0
	}
	return strings.Join(m.lines, "\n") + "\n", m.inputs
}

func (m *maker) block(depth int) {
	for m.left > 0 && (depth == 0 || m.chance.Intn(4) > 0) {
		m.left--
		switch n := m.chance.Intn(10); {
		case n < 3 && depth < 4:
			head := m.pick("if ", "while ")
			m.lines = append(m.lines, head+m.atom())
			m.block(depth + 1)
			if head == "if " && m.chance.Intn(2) == 0 {
				m.lines = append(m.lines, "else")
				m.block(depth + 1)
			}
			m.lines = append(m.lines, "end")
		case n < 4 && len(m.arrays) > 0 && len(m.slots) > 0:
			m.lines = append(m.lines, "load "+m.pick(m.slots...)+" "+m.pick(m.arrays...)+" "+m.index())
		case n < 6 && len(m.arrays) > 0:
			m.lines = append(m.lines, "store "+m.pick(m.arrays...)+" "+m.index()+" "+m.atom())
		case n < 7 || len(m.slots) == 0:
			m.lines = append(m.lines, "out "+m.atom())
		case n < 8:
			m.lines = append(m.lines, m.pick(m.slots...)+" = "+m.atom())
		default:
			op := m.pick("+", "-", "*", "&", "|", "^", "<<", ">>", "<", "==")
			m.lines = append(m.lines, m.pick(m.slots...)+" = "+m.atom()+" "+op+" "+m.atom())
		}
	}
}

// spoil changes a text a little, so that most often one line of it is wrong.
func (m *maker) spoil(s string) string {
	b := []byte(s)
	at := m.chance.Intn(len(b) + 1)
	lines := strings.SplitAfter(s, "\n")
	line := m.chance.Intn(len(lines))
	switch m.chance.Intn(6) {
	case 0:
		return s[:at]
	case 1:
		return s[:at] + m.pick(" ", "\n", "0", "1", "a", "x", "=", "<", "\t", "\r", "\x00", "\xff", "end\n", "else\n", "A") + s[at:]
	case 2:
		if at < len(b) {
			return s[:at] + s[at+1:]
		}
	case 3:
		if at < len(b) {
			b[at] = "abcdefghijklmnopqrstuvwxyz0123456789 \n=<>+-"[m.chance.Intn(43)]
			return string(b)
		}
	case 4:
		lines[line] = ""
		return strings.Join(lines, "")
	case 5:
		extra := m.pick("end\n", "else\n", "var q\n", "secret q\n", "array q 2\n", "out 1\n", "if 1\n", "while 1\n", "\n")
		return strings.Join(lines[:line], "") + extra + strings.Join(lines[line:], "")
	}
	return s
}
