package frame

import (
	"encoding/hex"
	"math/bits"
	"math/rand"
	"slices"
	"strings"
	"testing"
	"unsafe"

	"latch/api"
)

func raw(t *testing.T, s string) string {
	t.Helper()
	b, err := hex.DecodeString(strings.ReplaceAll(s, " ", ""))
	if err != nil {
		t.Fatal(err)
	}
	return string(b)
}

func randomText(r *rand.Rand, n int) string {
	b := make([]byte, n)
	r.Read(b)
	return string(b)
}

// onStream is a request as it stands on a Stream, with any length, right or not.
func onStream(mark, length, unit int, body string) string {
	head := []byte{byte(mark >> 8), byte(mark), 0, 0, byte(length >> 8), byte(length), byte(unit)}
	return string(head) + body
}

func frameOnStream(f api.Frame) string {
	return onStream(f.Mark, 1+len(f.Body), f.Unit, f.Body)
}

// onSerial adds the check, worked out by another way than the program's.
func onSerial(s string) string {
	c := divisionCheck(s)
	return s + string([]byte{byte(c), byte(c >> 8)})
}

// divisionCheck works with mirrored bits from the highest down, where the
// program works from the lowest up.
func divisionCheck(s string) uint16 {
	rest := uint16(0xffff)
	for i := range len(s) {
		for bit := range 8 {
			top := rest>>15 ^ uint16(s[i]>>bit&1)
			rest <<= 1
			if top == 1 {
				rest ^= 0x8005
			}
		}
	}
	return bits.Reverse16(rest)
}

func sameFrames(t *testing.T, what string, s string, frames []api.Frame, n int, e api.Errno) {
	t.Helper()
	l, m, f := Split(s)
	if !slices.Equal(l, frames) || m != n || f != e {
		t.Errorf("%s: Split(%x) = %v, %d, %d, want %v, %d, %d", what, s, l, m, f, frames, n, e)
	}
}

func TestP3KnownChecks(t *testing.T) {
	for _, c := range []struct {
		s    string
		want uint16
	}{
		{"", 65535},
		{"123456789", 19255},
		{"\x00", 0x40bf},
		{"\xff", 0x00ff},
		{"\x01\x03\x00\x00\x00\x01", 0x0a84},
		{"\x11\x03\x00\x6b\x00\x03", 0x8776},
		{"\x01\x04\x02\xff\xff", 0x80b8},
	} {
		if got := Check(c.s); got != c.want {
			t.Errorf("P3: Check(%x) = %04x, want %04x", c.s, got, c.want)
		}
	}
}

func TestP3AgainstDivision(t *testing.T) {
	r := rand.New(rand.NewSource(3))
	for b := range 256 {
		s := string([]byte{byte(b)})
		if got, want := Check(s), divisionCheck(s); got != want {
			t.Errorf("P3: Check(%x) = %04x, want %04x", s, got, want)
		}
	}
	for n := range 600 {
		s := randomText(r, n)
		if got, want := Check(s), divisionCheck(s); got != want {
			t.Errorf("P3: Check(%x) = %04x, want %04x", s, got, want)
		}
	}
}

func TestP4SplitExamples(t *testing.T) {
	one := []api.Frame{{Mark: 1, Unit: 17, Body: "\x03\x00\x00\x00\x02"}}
	sameFrames(t, "P4", raw(t, "0001 0000 0006 11 03 0000 0002"), one, 12, api.OK)
	sameFrames(t, "P4", raw(t, "0001 0001"), nil, 0, api.ErrFrame)
	sameFrames(t, "P4", raw(t, "0001 0000 00"), nil, 0, api.OK)
	sameFrames(t, "P4", raw(t, "0001 0000 0001"), nil, 0, api.ErrFrame)
	sameFrames(t, "P4", "", nil, 0, api.OK)
}

func TestP4SplitLengths(t *testing.T) {
	for _, length := range []int{2, 3, 253, 254} {
		f := api.Frame{Mark: 0x1234, Unit: 255, Body: strings.Repeat("b", length-1)}
		s := frameOnStream(f)
		sameFrames(t, "P4", s, []api.Frame{f}, 6+length, api.OK)
		sameFrames(t, "P4", s[:len(s)-1], nil, 0, api.OK)
	}
	for _, length := range []int{0, 1, 255, 256, 258, 510, 65535} {
		body := strings.Repeat("b", max(length-1, 0))
		sameFrames(t, "P4", onStream(1, length, 1, body), nil, 0, api.ErrFrame)
	}
}

func TestP4SplitMarksAndUnits(t *testing.T) {
	for _, f := range []api.Frame{
		{Mark: 0, Unit: 0, Body: "\x00"},
		{Mark: 255, Unit: 1, Body: "\x07"},
		{Mark: 256, Unit: 247, Body: "\x07\x08"},
		{Mark: 65535, Unit: 255, Body: "\xff\xff\xff"},
	} {
		s := frameOnStream(f)
		sameFrames(t, "P4", s, []api.Frame{f}, len(s), api.OK)
	}
}

// mayStand tells of each byte of a head whether it may stand there.
func mayStand(at, b int) bool {
	switch at {
	case 2, 3, 4:
		return b == 0
	case 5:
		return b >= 2 && b <= 254
	}
	return true
}

func TestP4SplitBreaksWithTheByteThatShowsIt(t *testing.T) {
	head := "\x12\x34\x00\x00\x00\xfe"
	first := api.Frame{Mark: 9, Unit: 3, Body: "\x05\x06"}
	ahead := frameOnStream(first)
	for at := range len(head) {
		for b := range 256 {
			s := head[:at] + string([]byte{byte(b)})
			want := api.OK
			if !mayStand(at, b) {
				want = api.ErrFrame
			}
			sameFrames(t, "P4: ahead of it", head[:at], nil, 0, api.OK)
			sameFrames(t, "P4: with it", s, nil, 0, want)
			sameFrames(t, "P4: behind a frame", ahead+s, []api.Frame{first}, len(ahead), want)
		}
	}
}

func TestP4SplitLooksAtNothingBehindABreak(t *testing.T) {
	first := api.Frame{Mark: 9, Unit: 3, Body: "\x05\x06"}
	ahead := frameOnStream(first)
	for _, bad := range []string{"0001 01", "0001 0001", "0001 0000 01", "0001 0000 0000", "0001 0000 0001", "0001 0000 00ff"} {
		s := ahead + raw(t, bad) + ahead + ahead
		sameFrames(t, "P4", s, []api.Frame{first}, len(ahead), api.ErrFrame)
	}
}

func TestP4SplitCutOff(t *testing.T) {
	frames := []api.Frame{
		{Mark: 1, Unit: 17, Body: "\x03\x00\x00\x00\x02"},
		{Mark: 65535, Unit: 0, Body: "\x07"},
		{Mark: 2, Unit: 255, Body: strings.Repeat("x", api.MaxBody)},
	}
	s, ends := "", []int{0}
	for _, f := range frames {
		s += frameOnStream(f)
		ends = append(ends, len(s))
	}
	for n := range len(s) + 1 {
		whole := 0
		for whole < len(frames) && ends[whole+1] <= n {
			whole++
		}
		sameFrames(t, "P4", s[:n], frames[:whole], ends[whole], api.OK)
	}
}

// readSlowly takes a stream apart with one byte after another.
func readSlowly(s string) (frames []api.Frame, taken int, e api.Errno) {
	var now []byte
	for i := range len(s) {
		at := len(now)
		if at < 6 && !mayStand(at, int(s[i])) {
			return frames, taken, api.ErrFrame
		}
		now = append(now, s[i])
		if at >= 6 && len(now) == 6+int(now[5]) {
			mark := int(now[0])*256 + int(now[1])
			frames = append(frames, api.Frame{Mark: mark, Unit: int(now[6]), Body: string(now[7:])})
			taken += len(now)
			now = nil
		}
	}
	return frames, taken, api.OK
}

func TestP4SplitAgainstSlowReading(t *testing.T) {
	r := rand.New(rand.NewSource(4))
	broken, whole := 0, 0
	for range 5000 {
		s := ""
		for range r.Intn(6) {
			body := randomText(r, 1+r.Intn(20))
			s += onStream(r.Intn(65536), 1+len(body), r.Intn(256), body)
		}
		b := []byte(s)
		if len(b) > 0 && r.Intn(2) == 0 {
			b[r.Intn(len(b))] = byte(r.Intn(256))
		}
		s = string(b[:len(b)-r.Intn(min(len(b), 9)+1)])
		frames, taken, e := readSlowly(s)
		sameFrames(t, "P4", s, frames, taken, e)
		if e != api.OK {
			broken++
		} else if len(frames) > 0 {
			whole++
		}
	}
	if broken < 100 || whole < 100 {
		t.Errorf("the texts are too much alike: %d broken, %d whole", broken, whole)
	}
}

func TestP4SerialExample(t *testing.T) {
	f, e := Serial(raw(t, "01 03 0000 0001 84 0a"))
	if e != api.OK || f != (api.Frame{Unit: 1, Body: "\x03\x00\x00\x00\x01"}) {
		t.Errorf("P4: Serial of the example: %+v, %d", f, e)
	}
}

func TestP4SerialSizes(t *testing.T) {
	r := rand.New(rand.NewSource(5))
	for n := range 400 {
		s := randomText(r, n)
		text := onSerial(s)
		f, e := Serial(text)
		want, wantErr := api.Frame{}, api.ErrFrame
		if len(text) >= 4 && len(text) <= 256 {
			want, wantErr = api.Frame{Unit: int(s[0]), Body: s[1:]}, api.OK
		}
		if f != want || e != wantErr {
			t.Errorf("P4: Serial of %d bytes: %+v, %d, want %+v, %d", len(text), f, e, want, wantErr)
		}
	}
}

func notSerial(t *testing.T, s string) {
	t.Helper()
	if f, e := Serial(s); f != (api.Frame{}) || e != api.ErrFrame {
		t.Errorf("P4: Serial(%x) = %+v, %d, want nothing and ErrFrame", s, f, e)
	}
}

func TestP4SerialWrong(t *testing.T) {
	s := raw(t, "01 03 0000 0001 84 0a")
	notSerial(t, raw(t, "01 03 0000 0001 0a 84"))
	// Not a nought: a right check stays right if one is added.
	notSerial(t, s+"\x01")
	notSerial(t, s+s)
	for n := range len(s) {
		notSerial(t, s[:n])
	}
	for bit := range 8 * len(s) {
		b := []byte(s)
		b[bit/8] ^= 1 << (bit % 8)
		notSerial(t, string(b))
	}
}

func TestP1AllTexts(t *testing.T) {
	r := rand.New(rand.NewSource(1))
	texts := []string{"", strings.Repeat("\x00", 1<<20), strings.Repeat("\xff", 1<<20)}
	texts = append(texts, strings.Repeat("\x00\x00\x00\x00\x00\x02\x00\x00", 1<<14))
	for b := range 65536 {
		texts = append(texts, string([]byte{byte(b >> 8), byte(b)}))
	}
	for range 2000 {
		texts = append(texts, randomText(r, r.Intn(300)))
	}
	for _, s := range texts {
		Check(s)
		frames, n, e := Split(s)
		if n < 0 || n > len(s) || e != api.OK && e != api.ErrFrame || (n == 0) != (len(frames) == 0) {
			t.Fatalf("P1: Split of %d bytes: %d frames, %d, %d", len(s), len(frames), n, e)
		}
		if f, e := Serial(s); e != api.OK && (e != api.ErrFrame || f != (api.Frame{})) {
			t.Fatalf("P1: Serial(%x) = %+v, %d", s, f, e)
		}
	}
}

func sharesMemory(a, b string) bool {
	if a == "" || b == "" {
		return false
	}
	from, to := uintptr(unsafe.Pointer(unsafe.StringData(a))), uintptr(unsafe.Pointer(unsafe.StringData(b)))
	return from < to+uintptr(len(b)) && to < from+uintptr(len(a))
}

func TestP2AnswersAreFreshMemory(t *testing.T) {
	s := frameOnStream(api.Frame{Mark: 1, Unit: 2, Body: "\x03\x04"})
	s += frameOnStream(api.Frame{Mark: 5, Unit: 6, Body: "\x07\x08"})
	frames, _, _ := Split(s)
	want := slices.Clone(frames)
	for _, f := range frames {
		if sharesMemory(f.Body, s) {
			t.Errorf("P2: a body of Split is kept from what was handed in")
		}
	}
	clear(frames)
	sameFrames(t, "P2: once more", s, want, len(s), api.OK)

	text := onSerial("\x01\x03\x00\x00\x00\x01")
	f, _ := Serial(text)
	if sharesMemory(f.Body, text) {
		t.Errorf("P2: the body of Serial is kept from what was handed in")
	}
}
