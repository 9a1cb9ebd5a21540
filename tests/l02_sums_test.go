package tests

import (
	"encoding/binary"
	"hash/crc32"
	"math"
	"strings"
	"testing"

	"loop.example/g00965/impl"
)

var (
	_ func(string) int              = impl.SumOf
	_ func(int) string              = impl.FourOf
	_ func(string, int) (int, bool) = impl.FourAt
	_ func(int) string              = impl.VarText
	_ func(string, int) (int, int)  = impl.VarAt
)

const mostOfFour = 4294967295

// everyByte has each byte once, in order.
func everyByte() string {
	all := make([]byte, 256)
	for b := range all {
		all[b] = byte(b)
	}
	return string(all)
}

// around tells texts that may stand ahead of a number, or behind it.
func around() []string {
	return []string{"", "a", "\x00", "\x80", "\xff", "\x00\x00\x00\x00", "\x80\x80\x80\x80\x80\x80", "\xff\xff\xff\xff\xff\xff\xff\xff", everyByte()}
}

// wrongPlaces tells places that a text of so many bytes does not have.
func wrongPlaces(length int) []int {
	return []int{-1, -2, -4, -length - 1, math.MinInt, math.MinInt + 1, math.MinInt + 4, length, length + 1, length + 4, math.MaxInt, math.MaxInt - 1, math.MaxInt - 3, math.MaxInt - 4, 1 << 32, -1 << 32}
}

func wantSum(t *testing.T, s string, want int) {
	t.Helper()
	if got := impl.SumOf(s); got != want {
		t.Errorf("SumOf(%.20q) of %d bytes = %d, not %d", s, len(s), got, want)
	}
}

// bySumsWords works the sum out as the document says it, bit by bit.
func bySumsWords(s string) int {
	sum := 4294967295
	for i := 0; i < len(s); i++ {
		sum ^= int(s[i])
		for range 8 {
			odd := sum % 2
			sum /= 2
			if odd == 1 {
				sum ^= 3988292384
			}
		}
	}
	return 4294967295 - sum
}

func wantNoFour(t *testing.T, s string, at int) {
	t.Helper()
	if n, ok := impl.FourAt(s, at); ok || n != 0 {
		t.Errorf("FourAt(%.20q of %d bytes, %d) = %d, %v", s, len(s), at, n, ok)
	}
}

func wantNoVar(t *testing.T, s string, at int) {
	t.Helper()
	if n, behind := impl.VarAt(s, at); n != 0 || behind != -1 {
		t.Errorf("VarAt(%.20q of %d bytes, %d) = %d, %d", s, len(s), at, n, behind)
	}
}

func wantVar(t *testing.T, s string, at int, want int, wantBehind int) {
	t.Helper()
	if n, behind := impl.VarAt(s, at); n != want || behind != wantBehind {
		t.Errorf("VarAt(%.20q of %d bytes, %d) = %d, %d, not %d, %d", s, len(s), at, n, behind, want, wantBehind)
	}
}

func TestSumOfKnownTexts(t *testing.T) {
	wantSum(t, "", 0)
	wantSum(t, "a", 3904355907)
	wantSum(t, "abc", 891568578)
	wantSum(t, "123456789", 3421780262)
	wantSum(t, "\x00", 3523407757)
	wantSum(t, "\xff", 4278190080)
	wantSum(t, "\x00\x00\x00\x00", 558161692)
	wantSum(t, "\xff\xff\xff\xff", 4294967295)
	wantSum(t, everyByte(), 688229491)
}

func TestSumOfIsWhatTheWordsSay(t *testing.T) {
	texts := append(textsUpTo("\x00\x01\x7f\x80\xffa", 4), everyByte(), strings.Repeat("\x00", 1000), strings.Repeat("\xff", 1000), strings.Repeat(everyByte(), 300))
	for b := range 256 {
		texts = append(texts, string([]byte{byte(b)}), string([]byte{byte(b), byte(255 - b)}), "ahead"+string([]byte{byte(b)}))
	}
	for _, s := range texts {
		wantSum(t, s, bySumsWords(s))
		wantSum(t, s, int(crc32.ChecksumIEEE([]byte(s))))
	}
}

func TestOneByteTurnedTurnsTheSum(t *testing.T) {
	for _, s := range []string{"a", "\x00", "\x00\x00\x00", "\xff\xff", "123456789", "work that is not lost", everyByte()} {
		sum := impl.SumOf(s)
		for at := range len(s) {
			for turn := 1; turn < 256; turn++ {
				turned := []byte(s)
				turned[at] ^= byte(turn)
				if impl.SumOf(string(turned)) == sum {
					t.Fatalf("%.20q: byte %d turned by %d leaves the sum", s, at, turn)
				}
			}
		}
	}
}

func TestFourOfIsReadBack(t *testing.T) {
	numbers := []int{0, 1, 255, 256, 65535, 65536, 66051, 16777215, 16777216, 2147483647, 2147483648, mostOfFour - 1, mostOfFour}
	for n := 0; n <= mostOfFour; n += 9999991 {
		numbers = append(numbers, n)
	}
	for _, n := range numbers {
		four := impl.FourOf(n)
		if four != string(binary.BigEndian.AppendUint32(nil, uint32(n))) {
			t.Fatalf("FourOf(%d) = %q", n, four)
		}
		for _, head := range around() {
			for _, tail := range around() {
				if got, ok := impl.FourAt(head+four+tail, len(head)); !ok || got != n {
					t.Fatalf("FourAt(%.20q + FourOf(%d) + %.20q) = %d, %v", head, n, tail, got, ok)
				}
			}
		}
	}
}

func TestFourOfOutsideItsLimits(t *testing.T) {
	for _, n := range []int{-1, -2, -256, -mostOfFour, -mostOfFour - 1, math.MinInt, math.MinInt + 1, mostOfFour + 1, mostOfFour + 2, 1 << 33, 1 << 40, math.MaxInt, math.MaxInt - 1} {
		if got := impl.FourOf(n); got != "" {
			t.Errorf("FourOf(%d) = %q", n, got)
		}
	}
}

func TestFourAtEachPlace(t *testing.T) {
	for length := range 12 {
		s := everyByte()[250-length : 250]
		for at := -6; at < length+6; at++ {
			if at < 0 || at+4 > length {
				wantNoFour(t, s, at)
				continue
			}
			want := int(binary.BigEndian.Uint32([]byte(s[at:])))
			if n, ok := impl.FourAt(s, at); !ok || n != want {
				t.Errorf("FourAt(%q, %d) = %d, %v, not %d", s, at, n, ok, want)
			}
		}
		for _, at := range wrongPlaces(length) {
			wantNoFour(t, s, at)
		}
	}
}

func TestFourAtJustFourBytes(t *testing.T) {
	s := "xyz\xff\xfe\xfd\xfc"
	if n, ok := impl.FourAt(s, 3); !ok || n != 0xfffefdfc {
		t.Errorf("FourAt at the last four bytes = %d, %v", n, ok)
	}
	wantNoFour(t, s, 4)
	wantNoFour(t, "", 0)
	wantNoFour(t, "\x00\x00\x00", 0)
}

func TestVarTextAtItsEdges(t *testing.T) {
	for _, c := range []struct {
		n    int
		want string
	}{
		{0, "\x00"}, {1, "\x01"}, {127, "\x7f"}, {128, "\x80\x01"}, {129, "\x81\x01"}, {255, "\xff\x01"}, {300, "\xac\x02"},
		{16383, "\xff\x7f"}, {16384, "\x80\x80\x01"}, {2097151, "\xff\xff\x7f"}, {2097152, "\x80\x80\x80\x01"},
		{268435455, "\xff\xff\xff\x7f"}, {268435456, "\x80\x80\x80\x80\x01"}, {impl.MaxNumber - 1, "\xff\x93\xeb\xdc\x03"}, {impl.MaxNumber, "\x80\x94\xeb\xdc\x03"},
	} {
		if got := impl.VarText(c.n); got != c.want {
			t.Errorf("VarText(%d) = %q, not %q", c.n, got, c.want)
		}
		wantVar(t, c.want, 0, c.n, len(c.want))
	}
}

func TestVarTextOutsideItsLimits(t *testing.T) {
	for _, n := range []int{-1, -127, -128, -129, -impl.MaxNumber, math.MinInt, math.MinInt + 1, impl.MaxNumber + 1, impl.MaxNumber + 2, 1 << 30, 1 << 35, math.MaxInt, math.MaxInt - 1} {
		if got := impl.VarText(n); got != "" {
			t.Errorf("VarText(%d) = %q", n, got)
		}
	}
}

func TestVarTextIsReadBack(t *testing.T) {
	check := func(n int) {
		text := impl.VarText(n)
		if text != string(binary.AppendUvarint(nil, uint64(n))) {
			t.Fatalf("VarText(%d) = %q", n, text)
		}
		wantVar(t, text, 0, n, len(text))
	}
	for n := range 150000 {
		check(n)
		check(impl.MaxNumber - n)
	}
	for n := 0; n <= impl.MaxNumber; n += 9973 {
		check(n)
	}
}

func TestVarAtWhateverStandsAround(t *testing.T) {
	for _, n := range []int{0, 1, 127, 128, 16383, 16384, 2097151, 2097152, 268435455, 268435456, impl.MaxNumber} {
		text := impl.VarText(n)
		for _, head := range around() {
			for _, tail := range around() {
				wantVar(t, head+text+tail, len(head), n, len(head)+len(text))
			}
			for cut := range len(text) {
				wantNoVar(t, head+text[:cut], len(head))
			}
		}
	}
}

func TestVarAtWrongPlaces(t *testing.T) {
	for _, s := range []string{"", "\x00", "\x05", "\x80\x01", "\x01\x02\x03\x04\x05\x06\x07", strings.Repeat("\x80", 9)} {
		for _, at := range wrongPlaces(len(s)) {
			wantNoVar(t, s, at)
		}
	}
}

func TestVarAtOfMoreThanNeeded(t *testing.T) {
	for _, s := range []string{"\x80\x00", "\x81\x00", "\xff\x00", "\x80\x80\x00", "\x81\x80\x00", "\xff\xff\xff\x00", "\x80\x80\x80\x80\x00", "\xac\x82\x00", "\xff\xff\xff\xff\x00", "\x80\x80\x80\x80\x80\x00", "\x80\x80\x80\x80\x80\x01"} {
		for _, head := range around() {
			for _, tail := range around() {
				wantNoVar(t, head+s+tail, len(head))
			}
		}
	}
	// A byte 0 with none ahead of it is the number 0.
	wantVar(t, "\x80\x00", 1, 0, 2)
	wantVar(t, "\x00\x00", 0, 0, 1)
}

func TestVarAtAboveMaxNumber(t *testing.T) {
	for n := uint64(impl.MaxNumber + 1); n < impl.MaxNumber+2000; n++ {
		wantNoVar(t, string(binary.AppendUvarint(nil, n)), 0)
	}
	for _, n := range []uint64{1 << 30, 1<<30 + 1, 1 << 31, 1<<32 - 1, 1 << 32, 1<<32 + 5, 1<<35 - 1, 1 << 35, 1<<35 + 7, 1 << 42, 1 << 56, 1<<63 - 1, 1 << 63, 1<<64 - 1} {
		wantNoVar(t, string(binary.AppendUvarint(nil, n)), 0)
		wantNoVar(t, "a"+string(binary.AppendUvarint(nil, n))+"b", 1)
	}
}

func TestVarAtOfManyBytesThatGoOn(t *testing.T) {
	for _, many := range []int{5, 6, 9, 10, 11, 19, 64, 1000, 100000} {
		for _, b := range []string{"\x80", "\x81", "\xff"} {
			on := strings.Repeat(b, many)
			for _, s := range []string{on, on + "\x00", on + "\x01", on + "\x7f"} {
				wantNoVar(t, s, 0)
			}
			wantVar(t, on+"\x07", many, 7, many+1)
		}
	}
}

// A number is told for just those bytes that VarText writes, so writing it again must give them back.
func TestVarAtOfShortTexts(t *testing.T) {
	for _, s := range textsUpTo("\x00\x01\x03\x04\x7f\x80\x94\xff", 6) {
		n, size := binary.Uvarint([]byte(s))
		right := size > 0 && n <= impl.MaxNumber && string(binary.AppendUvarint(nil, n)) == s[:size]
		if right {
			wantVar(t, s, 0, int(n), size)
		} else {
			wantNoVar(t, s, 0)
		}
	}
}
