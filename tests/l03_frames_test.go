package tests

import (
	"encoding/binary"
	"hash/crc32"
	"slices"
	"strings"
	"testing"
	"unsafe"

	"loop.example/g00965/impl"
)

var (
	_ func(string) string             = impl.FrameOf
	_ func(string, int) (string, int) = impl.FrameAt
	_ func(string) ([]string, int)    = impl.ScanOf
	_ func([]string) string           = impl.FramesOf
)

// rawFrame puts a frame together whether or not its length and its sum fit the body.
func rawFrame(length string, sum uint32, body string) string {
	return length + string(binary.BigEndian.AppendUint32(nil, sum)) + body
}

func sumOfBody(body string) uint32 { return crc32.ChecksumIEEE([]byte(body)) }

func lengthText(n int) string { return string(binary.AppendUvarint(nil, uint64(n))) }

// frameByWords is the frame of a body that may have one, made without the program.
func frameByWords(body string) string {
	return rawFrame(lengthText(len(body)), sumOfBody(body), body)
}

// bodyOf is a body of so many bytes, no two of which, one behind the other, are the same.
func bodyOf(length int) string {
	return strings.Repeat(everyByte(), length/256+1)[:length]
}

// bodies tells bodies that have a frame, those at the edges among them.
func bodies() []string {
	list := []string{"a", "bc", "\x00", "\xff", "\x80", "\x00\x00\x00\x00\x00", "\xff\xff\xff\xff\xff", everyByte()}
	for _, length := range []int{1, 2, 126, 127, 128, 129, 255, 256, 399, 400} {
		list = append(list, bodyOf(length), strings.Repeat("\x00", length))
	}
	return list
}

// fullFile tells bodies whose frames have so many bytes together; it takes as few frames as it can.
func fullFile(t *testing.T, bytes int) []string {
	t.Helper()
	list := []string{}
	for bytes > 0 {
		length := min(bytes-6, 400)
		list = append(list, bodyOf(length))
		bytes -= len(frameByWords(list[len(list)-1]))
	}
	if bytes != 0 {
		t.Fatal("the frames do not come out even")
	}
	return list
}

// scanByWords tries each body that may begin at a place, and takes the one whose frame stands there.
func scanByWords(s string) ([]string, int) {
	found, at := []string{}, 0
	for {
		body := bodyByWords(s[at:])
		if body == "" {
			return found, at
		}
		found = append(found, body)
		at += len(frameByWords(body))
	}
}

func bodyByWords(s string) string {
	for length := 1; length <= 400; length++ {
		head := len(lengthText(length)) + 4
		if head+length > len(s) {
			return ""
		}
		if body := s[head : head+length]; s[:head] == lengthText(length)+string(binary.BigEndian.AppendUint32(nil, sumOfBody(body))) {
			return body
		}
	}
	return ""
}

func wantFrame(t *testing.T, s string, at int, want string, wantBehind int) {
	t.Helper()
	if body, behind := impl.FrameAt(s, at); body != want || behind != wantBehind {
		t.Errorf("FrameAt(%.20q of %d bytes, %d) = %.20q of %d bytes, %d, not %.20q of %d bytes, %d", s, len(s), at, body, len(body), behind, want, len(want), wantBehind)
	}
}

func wantNoFrame(t *testing.T, s string, at int) {
	t.Helper()
	wantFrame(t, s, at, "", -1)
}

func wantScan(t *testing.T, s string, want []string, wantBytes int) {
	t.Helper()
	if list, bytes := impl.ScanOf(s); !slices.Equal(list, want) || bytes != wantBytes {
		t.Errorf("ScanOf(%.20q of %d bytes) = %d bodies, %d bytes, not %d, %d", s, len(s), len(list), bytes, len(want), wantBytes)
	}
}

func wantNoFrames(t *testing.T, list []string) {
	t.Helper()
	if got := impl.FramesOf(list); got != "" {
		t.Errorf("FramesOf(%d bodies) has %d bytes", len(list), len(got))
	}
}

// sharesBytes tells whether a part lies within the memory of a whole.
func sharesBytes(part, whole string) bool {
	from, begin := uintptr(unsafe.Pointer(unsafe.StringData(part))), uintptr(unsafe.Pointer(unsafe.StringData(whole)))
	return part != "" && from >= begin && from < begin+uintptr(len(whole))
}

func TestLimitsOfFrames(t *testing.T) {
	if impl.MaxBody != 400 || impl.MaxFile != 60000 {
		t.Error(impl.MaxBody, impl.MaxFile)
	}
}

func TestFrameOfKnownBodies(t *testing.T) {
	for _, c := range []struct{ body, want string }{
		{"a", "\x01\xe8\xb7\xbe\x43a"},
		{"abc", "\x03\x35\x24\x41\xc2abc"},
		{"123456789", "\x09\xcb\xf4\x39\x26123456789"},
		{"\x00", "\x01\xd2\x02\xef\x8d\x00"},
		{"\xff\xff\xff\xff", "\x04\xff\xff\xff\xff\xff\xff\xff\xff"},
	} {
		if got := impl.FrameOf(c.body); got != c.want {
			t.Errorf("FrameOf(%q) = %q, not %q", c.body, got, c.want)
		}
	}
}

func TestFrameOfIsWhatTheWordsSay(t *testing.T) {
	for length := 1; length <= 400; length++ {
		body := bodyOf(length)
		if got := impl.FrameOf(body); got != frameByWords(body) {
			t.Errorf("FrameOf a body of %d bytes = %.20q of %d bytes", length, got, len(got))
		}
	}
}

func TestFrameOfOutsideItsLimits(t *testing.T) {
	for _, length := range []int{0, 401, 402, 512, 1000, 16384, 60000, 60001, 1000000} {
		if got := impl.FrameOf(bodyOf(length)); got != "" {
			t.Errorf("FrameOf a body of %d bytes has %d bytes", length, len(got))
		}
	}
}

func TestFrameAtWhateverStandsAround(t *testing.T) {
	for _, body := range bodies() {
		frame := impl.FrameOf(body)
		for _, head := range append(around(), frame, frame[:len(frame)-1]) {
			for _, tail := range append(around(), frame, frame[:len(frame)-1]) {
				wantFrame(t, head+frame+tail, len(head), body, len(head)+len(frame))
			}
		}
	}
}

func TestFrameAtInATextLongerThanAFile(t *testing.T) {
	far := strings.Repeat("x", 100000)
	for _, body := range bodies() {
		wantFrame(t, far+impl.FrameOf(body), len(far), body, len(far)+len(impl.FrameOf(body)))
		wantFrame(t, impl.FrameOf(body)+far, 0, body, len(impl.FrameOf(body)))
	}
}

func TestFrameAtACutText(t *testing.T) {
	for _, body := range bodies() {
		frame := frameByWords(body)
		for cut := range len(frame) {
			wantNoFrame(t, frame[:cut], 0)
			wantNoFrame(t, "head"+frame[:cut], 4)
		}
	}
}

func TestFrameAtWrongPlaces(t *testing.T) {
	for _, s := range []string{"", "\x00", "\x01", frameByWords("a"), frameByWords(bodyOf(128)), frameByWords("a") + frameByWords("bc"), strings.Repeat("\x80", 9)} {
		for _, at := range wrongPlaces(len(s)) {
			wantNoFrame(t, s, at)
		}
	}
}

func TestFrameAtEachPlaceOfAFrame(t *testing.T) {
	frame := frameByWords("work that is not lost")
	for at := 1; at <= len(frame); at++ {
		wantNoFrame(t, frame, at)
	}
	inner := frameByWords(frame)
	wantFrame(t, inner, 5, "work that is not lost", len(inner))
}

func TestFrameAtOfWrongLengths(t *testing.T) {
	for _, n := range []int{401, 402, 500, 512, 16383, 16384, 59990, 1000000} {
		body := bodyOf(n)
		wantNoFrame(t, rawFrame(lengthText(n), sumOfBody(body), body), 0)
	}
	// The sum of nothing is 0, so that a length 0 would else be a frame.
	wantNoFrame(t, rawFrame("\x00", 0, ""), 0)
	wantNoFrame(t, rawFrame("\x00", 0, "abc"), 0)
	wantNoFrame(t, strings.Repeat("\x00", 20), 3)
}

func TestFrameAtOfLengthsThatRunOver(t *testing.T) {
	for _, body := range []string{"a", bodyOf(127), bodyOf(128), bodyOf(399)} {
		for _, n := range []int{len(body) + 1, len(body) + 2, len(body) + 5, 400, 1000000000} {
			for _, head := range around() {
				wantNoFrame(t, head+rawFrame(lengthText(n), sumOfBody(body), body), len(head))
			}
		}
	}
	for _, n := range []uint64{1<<31 - 1, 1 << 31, 1<<32 - 1, 1<<32 + 1, 1<<35 + 1, 1<<63 - 1, 1<<63 - 5, 1 << 63, 1<<63 + 1, 1<<64 - 1} {
		wantNoFrame(t, rawFrame(string(binary.AppendUvarint(nil, n)), sumOfBody("a"), "a"), 0)
	}
}

func TestFrameAtOfLengthsThatAreTooShort(t *testing.T) {
	for _, body := range []string{"ab", bodyOf(127), bodyOf(128), bodyOf(400)} {
		for n := range len(body) {
			wantNoFrame(t, rawFrame(lengthText(n), sumOfBody(body), body), 0)
		}
	}
}

func TestFrameAtOfLengthsInMoreBytesThanNeeded(t *testing.T) {
	for _, c := range []struct {
		length string
		body   string
	}{
		{"\x81\x00", "a"}, {"\x81\x80\x00", "a"}, {"\x81\x80\x80\x80\x00", "a"}, {"\x81\x80\x80\x80\x80\x00", "a"}, {"\x80\x00", ""},
		{"\xff\x00", bodyOf(127)}, {"\x80\x81\x00", bodyOf(128)}, {"\x90\x83\x00", bodyOf(400)},
	} {
		wantNoFrame(t, rawFrame(c.length, sumOfBody(c.body), c.body), 0)
		wantNoFrame(t, "x"+rawFrame(c.length, sumOfBody(c.body), c.body)+"y", 1)
	}
}

func TestFrameAtOfAnotherSum(t *testing.T) {
	for _, body := range []string{"a", "bc", "\x00", bodyOf(127), bodyOf(128), bodyOf(400)} {
		sum := sumOfBody(body)
		for bit := range 32 {
			wantNoFrame(t, rawFrame(lengthText(len(body)), sum^1<<bit, body), 0)
		}
		for _, other := range []uint32{0, 1<<32 - 1, ^sum, sum + 1, sum - 1, sumOfBody(body + body), sumOfBody(lengthText(len(body)) + body), sum>>24 | sum>>8&0xff00 | sum<<8&0xff0000 | sum<<24} {
			wantNoFrame(t, rawFrame(lengthText(len(body)), other, body), 0)
		}
	}
}

func TestFrameAtAnswersNewMemory(t *testing.T) {
	for _, body := range bodies() {
		s := strings.Clone("x" + frameByWords(body))
		if got, _ := impl.FrameAt(s, 1); sharesBytes(got, s) {
			t.Errorf("the body of %d bytes lies in the text", len(body))
		}
		if list, _ := impl.ScanOf(s[1:]); len(list) != 1 || sharesBytes(list[0], s) {
			t.Errorf("the scanned body of %d bytes lies in the text", len(body))
		}
	}
}

func TestFramesOfIsFrameOfEach(t *testing.T) {
	want := ""
	for _, body := range bodies() {
		want += frameByWords(body)
	}
	list := bodies()
	if got := impl.FramesOf(list); got != want {
		t.Errorf("FramesOf has %d bytes, not %d", len(got), len(want))
	}
	if !slices.Equal(list, bodies()) {
		t.Error("FramesOf wrote into its list")
	}
	wantScan(t, want, bodies(), len(want))
}

func TestFramesOfAnEmptyList(t *testing.T) {
	wantNoFrames(t, nil)
	wantNoFrames(t, []string{})
	wantScan(t, "", nil, 0)
}

func TestFramesOfOneThatIsNone(t *testing.T) {
	for _, none := range []string{"", bodyOf(401), bodyOf(402), bodyOf(1000)} {
		wantNoFrames(t, []string{none})
		wantNoFrames(t, []string{none, "a", "bc"})
		wantNoFrames(t, []string{"a", none, "bc"})
		wantNoFrames(t, []string{"a", "bc", none})
		wantNoFrames(t, []string{none, none})
	}
	// Without the one that is none, there are frames.
	if got := impl.FramesOf([]string{"a", "bc"}); got != frameByWords("a")+frameByWords("bc") {
		t.Errorf("FramesOf = %q", got)
	}
}

func TestFramesOfJustMaxFile(t *testing.T) {
	list := fullFile(t, 60000)
	full := impl.FramesOf(list)
	if len(full) != 60000 {
		t.Fatalf("FramesOf has %d bytes", len(full))
	}
	wantScan(t, full, list, 60000)
	less := fullFile(t, 59999)
	wantScan(t, impl.FramesOf(less), less, 59999)
	wantScan(t, impl.FramesOf(less)+"x", less, 59999)
	ones := slices.Repeat([]string{"z"}, 10000)
	wantScan(t, impl.FramesOf(ones), ones, 60000)
}

func TestFramesOfMoreThanMaxFile(t *testing.T) {
	wantNoFrames(t, fullFile(t, 60001))
	wantNoFrames(t, fullFile(t, 60002))
	wantNoFrames(t, append(fullFile(t, 60000), "a"))
	wantNoFrames(t, slices.Repeat([]string{"z"}, 10001))
	wantNoFrames(t, slices.Repeat([]string{bodyOf(400)}, 5000))
	wantNoFrames(t, append(fullFile(t, 60000), ""))
}

func TestScanOfMoreThanMaxFile(t *testing.T) {
	full := ""
	for _, body := range fullFile(t, 60000) {
		full += frameByWords(body)
	}
	for _, more := range []string{"x", "\x00", frameByWords("a"), full} {
		wantScan(t, full+more, nil, 0)
	}
	over := ""
	for _, body := range fullFile(t, 60001) {
		over += frameByWords(body)
	}
	wantScan(t, over, nil, 0)
	wantScan(t, over[:60000], fullFile(t, 60001)[:147], 147*406)
	wantScan(t, frameByWords("a")+strings.Repeat("x", 59994), []string{"a"}, 6)
	wantScan(t, frameByWords("a")+strings.Repeat("x", 59995), nil, 0)
}

func TestScanOfCutAnywhere(t *testing.T) {
	list := append(bodies(), "the", "last")
	s := impl.FramesOf(list)
	ends := []int{0}
	for _, body := range list {
		ends = append(ends, ends[len(ends)-1]+len(frameByWords(body)))
	}
	whole := 0
	for cut := range len(s) + 1 {
		if whole < len(list) && ends[whole+1] == cut {
			whole++
		}
		wantScan(t, s[:cut], list[:whole], ends[whole])
	}
	if whole != len(list) {
		t.Errorf("%d frames of %d are whole", whole, len(list))
	}
}

func TestScanOfOneByteTurned(t *testing.T) {
	list := []string{"a", "\x00", "work", strings.Repeat("\x00", 12), "lost", bodyOf(130), "b"}
	s := impl.FramesOf(list)
	ahead, end := 0, len(frameByWords(list[0]))
	for at := range len(s) {
		if at == end {
			ahead++
			end += len(frameByWords(list[ahead]))
		}
		for turn := 1; turn < 256; turn++ {
			turned := []byte(s)
			turned[at] ^= byte(turn)
			got, bytes := impl.ScanOf(string(turned))
			want, wantBytes := scanByWords(string(turned))
			if !slices.Equal(got, want) || bytes != wantBytes {
				t.Fatalf("byte %d turned by %d: %q, %d bytes, not %q, %d", at, turn, got, bytes, want, wantBytes)
			}
			if len(got) < ahead || !slices.Equal(got[:ahead], list[:ahead]) {
				t.Fatalf("byte %d turned by %d: of %d frames ahead there are %d", at, turn, ahead, len(got))
			}
		}
	}
}

func TestScanOfWhatIsNotFrames(t *testing.T) {
	two := frameByWords("a") + frameByWords("bc")
	for _, none := range []string{"\x00", "x", "\x80", "\x80\x00", "\xff\xff\xff\xff\xff\xff", rawFrame("\x00", 0, ""), rawFrame("\x01", 1, "a"), rawFrame("\x81\x00", sumOfBody("a"), "a"), rawFrame(lengthText(401), sumOfBody(bodyOf(401)), bodyOf(401))} {
		wantScan(t, none, nil, 0)
		// Behind one that is none nothing is looked for.
		wantScan(t, none+two, nil, 0)
		wantScan(t, two+none, []string{"a", "bc"}, len(two))
		wantScan(t, two+none+two, []string{"a", "bc"}, len(two))
	}
}

func TestScanOfShortTexts(t *testing.T) {
	for _, s := range textsUpTo("\x00\x01\x02\x80\xff", 7) {
		want, wantBytes := scanByWords(s)
		wantScan(t, s, want, wantBytes)
	}
}
