package source

import "leaks/api"

// split gives the words of a line: what stands between single blanks. A blank too many makes an empty word, which no line has a place for.
func split(line string) []string {
	var words []string
	start := 0
	for i := 0; i < len(line); i++ {
		if line[i] == ' ' {
			words = append(words, line[start:i])
			start = i + 1
		}
	}
	words = append(words, line[start:])
	return words
}

func isName(w string) bool {
	return len(w) == 1 && w[0] >= 'a' && w[0] <= 'z'
}

// number gives the value of a number, or -1.
func number(w string) int {
	if len(w) == 1 && w[0] >= '0' && w[0] <= '9' {
		return int(w[0] - '0')
	}
	if len(w) == 2 && w[0] == '1' && w[1] >= '0' && w[1] <= '5' {
		return 10 + int(w[1]-'0')
	}
	return -1
}

// operation gives the number of an operation with two sides, or -1.
func operation(w string) int {
	switch w {
	case "+":
		return api.Add
	case "-":
		return api.Sub
	case "*":
		return api.Mul
	case "&":
		return api.And
	case "|":
		return api.Or
	case "^":
		return api.Xor
	case "<<":
		return api.Shl
	case ">>":
		return api.Shr
	case "<":
		return api.Less
	case "==":
		return api.Same
	}
	return -1
}
