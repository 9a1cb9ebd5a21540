package tests

import (
	"encoding/hex"
	"fmt"
	"math"
	"slices"
	"strings"
	"testing"

	"loop.example/g00965/impl"
)

var (
	_ func(string) (string, bool)   = impl.Hex
	_ func(string) (string, bool)   = impl.Unhex
	_ func(int) string              = impl.Decimal
	_ func(string) (int, bool)      = impl.ReadDecimal
	_ func(string) ([]string, bool) = impl.PartsOf
	_ func(int, int, int) int       = impl.Brought
)

// textsUpTo tells every text of these signs with at most most bytes, the empty one too.
func textsUpTo(signs string, most int) []string {
	all, last := []string{""}, []string{""}
	for range most {
		var next []string
		for _, head := range last {
			for i := 0; i < len(signs); i++ {
				next = append(next, head+signs[i:i+1])
			}
		}
		all, last = append(all, next...), next
	}
	return all
}

func wantHex(t *testing.T, text string) {
	t.Helper()
	h, ok := impl.Hex(text)
	if want := hex.EncodeToString([]byte(text)); !ok || h != want {
		t.Fatalf("Hex(%.20q) = %.40q, %v", text, h, ok)
	}
	if back, ok := impl.Unhex(h); !ok || back != text {
		t.Fatalf("Unhex(%.40q) = %.20q, %v", h, back, ok)
	}
}

func wantNoText(t *testing.T, figures string) {
	t.Helper()
	if got, ok := impl.Unhex(figures); ok || got != "" {
		t.Errorf("Unhex(%.40q) of %d bytes = %.20q, %v", figures, len(figures), got, ok)
	}
}

func wantNoNumber(t *testing.T, text string) {
	t.Helper()
	if n, ok := impl.ReadDecimal(text); ok || n != 0 {
		t.Errorf("ReadDecimal(%.40q) = %d, %v", text, n, ok)
	}
}

func wantParts(t *testing.T, line string, want ...string) {
	t.Helper()
	if got, ok := impl.PartsOf(line); !ok || !slices.Equal(got, want) {
		t.Errorf("PartsOf(%.40q) of %d bytes = %.200q, %v", line, len(line), got, ok)
	}
}

func wantNoParts(t *testing.T, line string) {
	t.Helper()
	if got, ok := impl.PartsOf(line); ok || len(got) != 0 {
		t.Errorf("PartsOf(%.40q) of %d bytes = %.200q, %v", line, len(line), got, ok)
	}
}

func TestWordsLimits(t *testing.T) {
	if impl.MaxText != 20000 || impl.MaxNumber != 1000000000 || impl.MaxWords != 600 || impl.MaxParts != 12 {
		t.Error(impl.MaxText, impl.MaxNumber, impl.MaxWords, impl.MaxParts)
	}
}

func TestHexIsReadBack(t *testing.T) {
	wantHex(t, "")
	for a := range 256 {
		wantHex(t, string([]byte{byte(a)}))
		for b := range 256 {
			wantHex(t, string([]byte{byte(a), byte(b)}))
		}
	}
	for _, text := range []string{"a", "Workyard", "\x00\x00\x0f\xf0\xff", "ä€𝄞", "\xff\xfe \n\x7f"} {
		wantHex(t, text)
	}
}

func TestHexAtItsLimit(t *testing.T) {
	wantHex(t, strings.Repeat("\xa7", impl.MaxText-1))
	wantHex(t, strings.Repeat("\xa7", impl.MaxText))
	for _, many := range []int{impl.MaxText + 1, 2 * impl.MaxText, 5*impl.MaxText + 3} {
		if got, ok := impl.Hex(strings.Repeat("\xa7", many)); ok || got != "" {
			t.Errorf("Hex of %d bytes = %.20q, %v", many, got, ok)
		}
	}
}

// A text is told for just those figures that Hex writes, so writing it again must give them back.
func TestUnhexOfAnyTwoBytes(t *testing.T) {
	for a := range 256 {
		for b := range 256 {
			figures := string([]byte{byte(a), byte(b)})
			right := strings.Trim(figures, "0123456789abcdef") == ""
			text, ok := impl.Unhex(figures)
			again, _ := impl.Hex(text)
			if ok != right || right && again != figures || !right && text != "" {
				t.Errorf("Unhex(%q) = %q, %v", figures, text, ok)
			}
		}
	}
}

func TestUnhexOfWhatHexNeverWrites(t *testing.T) {
	for _, figures := range []string{
		"0", "f", "abc", "01ff0", "A0", "0F", "aB", "FF", "DEADBEEF", "0g", "g0", "zz", " 0", "0 ", "00 1", " 00", "00 ",
		"0x10", "-1", "+1", "0.", "\x0000", "00\n", "00\x00\x00", "\u0660\u0661", "0011A1", "001g", "@0", "`0", "/0", ":0", "0@", "0`", "0/", "0:",
	} {
		wantNoText(t, figures)
	}
	wantNoText(t, strings.Repeat("00", impl.MaxText)+"0")
	wantNoText(t, strings.Repeat("00", impl.MaxText+1))
	wantNoText(t, strings.Repeat("7f", 3*impl.MaxText))
	wantNoText(t, strings.Repeat("00", impl.MaxText-1)+"0G")
}

func TestDecimalOfEveryKindOfNumber(t *testing.T) {
	numbers := []int{0, 1, -1, 9, 10, -10, 99, 100, -30, impl.MaxNumber, impl.MaxNumber + 1, -impl.MaxNumber, math.MaxInt, math.MinInt, math.MaxInt - 1, math.MinInt + 1}
	for n := 1; n < math.MaxInt/10; n *= 10 {
		numbers = append(numbers, n-1, n, n+1, -n, 1-n, -n-1)
	}
	for _, n := range numbers {
		if got := impl.Decimal(n); got != fmt.Sprintf("%d", n) {
			t.Errorf("Decimal(%d) = %q", n, got)
		}
	}
	if got := impl.Decimal(math.MinInt); got != "-9223372036854775808" {
		t.Errorf("Decimal of the least int = %q", got)
	}
	if got := impl.Decimal(math.MaxInt); got != "9223372036854775807" {
		t.Errorf("Decimal of the greatest int = %q", got)
	}
}

func TestDecimalIsReadBack(t *testing.T) {
	check := func(n int) {
		if got, ok := impl.ReadDecimal(impl.Decimal(n)); !ok || got != n {
			t.Fatalf("ReadDecimal(Decimal(%d)) = %d, %v", n, got, ok)
		}
	}
	for n := range 120000 {
		check(n)
		check(impl.MaxNumber - n)
	}
	for n := 0; n <= impl.MaxNumber; n += 9973 {
		check(n)
	}
	check(impl.MaxNumber)
}

func TestReadDecimalOutsideItsLimits(t *testing.T) {
	for _, n := range []int{impl.MaxNumber + 1, impl.MaxNumber + 2, 9999999999, 1 << 32, 1<<32 + 7, math.MaxInt, math.MinInt, math.MinInt + 1, -1, -9, -10, -impl.MaxNumber} {
		wantNoNumber(t, impl.Decimal(n))
	}
	for _, text := range []string{"9223372036854775808", "18446744073709551616", "18446744073709551623", "340282366920938463463374607431768211456"} {
		wantNoNumber(t, text)
	}
	for _, many := range []int{11, 20, 100, 100000} {
		wantNoNumber(t, strings.Repeat("9", many))
		wantNoNumber(t, strings.Repeat("0", many))
		wantNoNumber(t, strings.Repeat("0", many)+"7")
		wantNoNumber(t, "1"+strings.Repeat("0", many))
	}
}

func TestReadDecimalOfWhatDecimalNeverWrites(t *testing.T) {
	for _, text := range []string{
		"", "00", "01", "007", "0000000001", "01000000000", "-0", "+0", "+1", "-1", "--1", "+-1", " 1", "1 ", "1 2", "\t1", "1\n", "1\x00",
		"1_000", "1,000", "1.0", "1e3", "0x1f", "0b1", "0o7", "a", "1a", "a1", "-", "+", "/", ":", "\u0661", "\uff11", "\xff",
	} {
		wantNoNumber(t, text)
	}
}

func TestReadDecimalOfShortTexts(t *testing.T) {
	for _, text := range textsUpTo("0179-+ _a\x00", 4) {
		n, ok := impl.ReadDecimal(text)
		figures := strings.Trim(text, "0179") == "" && text != ""
		right := figures && (text == "0" || text[0] != '0')
		if ok != right || right && fmt.Sprintf("%d", n) != text || !right && n != 0 {
			t.Fatalf("ReadDecimal(%q) = %d, %v", text, n, ok)
		}
	}
}

func TestPartsOfOrdinaryLines(t *testing.T) {
	wantParts(t, "a", "a")
	wantParts(t, "submit 1 2:3", "submit", "1", "2:3")
	wantParts(t, "b a b a", "b", "a", "b", "a")
	wantParts(t, "   a", "a")
	wantParts(t, "a   ", "a")
	wantParts(t, "  a   bc    d ", "a", "bc", "d")
}

func TestPartsOfNothing(t *testing.T) {
	wantParts(t, "")
	wantParts(t, " ")
	wantParts(t, "     ")
	wantParts(t, strings.Repeat(" ", impl.MaxWords))
	wantNoParts(t, strings.Repeat(" ", impl.MaxWords+1))
}

func TestPartsOfALongLine(t *testing.T) {
	long := strings.Repeat("x", impl.MaxWords)
	wantParts(t, long, long)
	wantParts(t, long[1:]+" ", long[1:])
	wantParts(t, " "+long[2:]+" ", long[2:])
	wantNoParts(t, long+"x")
	wantNoParts(t, long+" ")
	wantNoParts(t, " "+long)
	wantNoParts(t, strings.Repeat("x ", 10*impl.MaxWords))
}

func TestPartsOfManyParts(t *testing.T) {
	most := strings.Fields("a b c d e f g h i j k l")
	if len(most) != impl.MaxParts {
		t.Fatal("the line should have MaxParts parts")
	}
	line := strings.Join(most, " ")
	wantParts(t, line, most...)
	wantParts(t, "  "+line+"  ", most...)
	wantParts(t, strings.Join(most, "   "), most...)
	wantParts(t, strings.Join(most[1:], " "), most[1:]...)
	wantNoParts(t, line+" m")
	wantNoParts(t, "  "+line+"  m ")
	wantNoParts(t, strings.Repeat("m ", impl.MaxWords/2))
}

func TestPartsOfEachByte(t *testing.T) {
	for b := range 256 {
		sign := string([]byte{byte(b)})
		switch {
		case b == 32:
			wantParts(t, sign)
			wantParts(t, "a"+sign+"b", "a", "b")
		case b > 32 && b <= 126:
			wantParts(t, sign, sign)
			wantParts(t, "a"+sign+"b", "a"+sign+"b")
			wantParts(t, "a "+sign+" b", "a", sign, "b")
		default:
			for _, line := range []string{sign, "a" + sign, sign + "a", "a" + sign + "b", "a " + sign + " b", " " + sign, sign + " "} {
				wantNoParts(t, line)
			}
		}
	}
	wantNoParts(t, "a\tb")
	wantNoParts(t, "a\nb")
	wantNoParts(t, "ä")
	wantNoParts(t, strings.Repeat("x", impl.MaxWords-1)+"\x7f")
	wantNoParts(t, "\x1f"+strings.Repeat(" ", impl.MaxWords-1))
}

func TestPartsOfShortLines(t *testing.T) {
	for _, line := range textsUpTo(" a~!\x1f\x7f", 6) {
		if strings.ContainsAny(line, "\x1f\x7f") {
			wantNoParts(t, line)
		} else {
			wantParts(t, line, strings.Fields(line)...)
		}
	}
}

func TestPartsOfIsNewEachTime(t *testing.T) {
	first, _ := impl.PartsOf("a b c")
	first[1] = "other"
	_ = append(first[:1], "more")
	wantParts(t, "a b c", "a", "b", "c")
}

func TestBroughtStaysBetween(t *testing.T) {
	some := []int{math.MinInt, math.MinInt + 1, -impl.MaxNumber, -7, -1, 0, 1, 2, 3, 7, impl.MaxNumber, math.MaxInt - 1, math.MaxInt}
	for _, n := range some {
		for _, least := range some {
			for _, most := range some {
				want := max(least, min(n, most))
				if got := impl.Brought(n, least, most); got != want {
					t.Errorf("Brought(%d, %d, %d) = %d, not %d", n, least, most, got, want)
				}
			}
		}
	}
}

func TestBroughtInWords(t *testing.T) {
	for _, c := range []struct{ n, least, most, want int }{
		{0, 1, 4, 1}, {1, 1, 4, 1}, {2, 1, 4, 2}, {4, 1, 4, 4}, {5, 1, 4, 4}, {9, 3, 3, 3}, {3, 3, 3, 3},
		{5, 7, 3, 7}, {9, 7, 3, 7}, {1, 7, 3, 7}, {7, 7, 3, 7}, {3, 7, 3, 7}, {-9, -5, -2, -5}, {0, -5, -2, -2},
	} {
		if got := impl.Brought(c.n, c.least, c.most); got != c.want {
			t.Errorf("Brought(%d, %d, %d) = %d, not %d", c.n, c.least, c.most, got, c.want)
		}
	}
}
