package impl

import (
	"strconv"
	"strings"
)

const (
	MaxText   = 20000
	MaxNumber = 1000000000
	MaxWords  = 600
	MaxParts  = 12
)

const (
	hexFigures = "0123456789abcdef"
	blank      = 32
	lastSign   = 126
)

func Hex(text string) (string, bool) {
	if len(text) > MaxText {
		return "", false
	}
	figures := make([]byte, 0, 2*len(text))
	for i := 0; i < len(text); i++ {
		figures = append(figures, hexFigures[text[i]>>4], hexFigures[text[i]&15])
	}
	return string(figures), true
}

func Unhex(text string) (string, bool) {
	// Hex refuses a text longer than MaxText, so more figures than that are nobody's.
	if len(text)%2 != 0 || len(text) > 2*MaxText {
		return "", false
	}
	read := make([]byte, 0, len(text)/2)
	for i := 0; i < len(text); i += 2 {
		high := strings.IndexByte(hexFigures, text[i])
		low := strings.IndexByte(hexFigures, text[i+1])
		if high < 0 || low < 0 {
			return "", false
		}
		read = append(read, byte(16*high+low))
	}
	return string(read), true
}

func Decimal(n int) string { return strconv.Itoa(n) }

func ReadDecimal(text string) (int, bool) {
	n, err := strconv.Atoi(text)
	if err != nil || n < 0 || n > MaxNumber {
		return 0, false
	}
	// Atoi also takes signs ahead and needless noughts, which Decimal never writes.
	if Decimal(n) != text {
		return 0, false
	}
	return n, true
}

func PartsOf(line string) ([]string, bool) {
	if len(line) > MaxWords {
		return []string{}, false
	}
	parts, part, at := []string{}, []byte{}, 0
signs:
	for at < len(line) {
		switch b := line[at]; {
		case b < blank || b > lastSign:
			break signs
		case b == blank:
			parts = withPart(parts, part)
			part = part[:0]
		default:
			part = append(part, b)
		}
		at++
	}
	parts = withPart(parts, part)
	if at < len(line) || len(parts) > MaxParts {
		return []string{}, false
	}
	return parts, true
}

// withPart leaves out an empty part, since several blanks together part no more than one.
func withPart(parts []string, part []byte) []string {
	if len(part) == 0 {
		return parts
	}
	return append(parts, string(part))
}

func Brought(n int, least int, most int) int {
	// least is held ahead of most: it is the answer when most is below it.
	if n < least || most < least {
		return least
	}
	if n > most {
		return most
	}
	return n
}
