package latch_test

import (
	"fmt"
	"math"
	"runtime"
	"slices"
	"strings"
	"testing"
	"time"

	"latch/api"
	"latch/pack"
)

const (
	readHolder = "03 0000 0001"
	noughtRead = "03 02 0000"
)

func TestP8NoSuchLine(t *testing.T) {
	for lines := 1; lines <= 4; lines++ {
		c := plain()
		c.Lines = c.Lines[:lines]
		r := newRig(t, c)
		for _, line := range []int{math.MinInt, -1, lines, lines + 1, 4, math.MaxInt} {
			if acts, errno := r.d.Feed(line, onStream(1, 1, raw(t, readHolder))); len(acts) != 0 || errno != api.ErrArg {
				t.Errorf("P8: Feed(%d) of %d: %v, %d, want ErrArg", line, lines, acts, errno)
			}
		}
		r.wants("P8: Tick", r.tick())
		r.wants("P8: a line that there is", r.feed(0, onStream(1, 1, raw(t, readHolder))), sent(0, onStream(1, 1, raw(t, noughtRead))))
	}
}

// TestP8StreamInPieces cuts two requests and the beginning of a third at any
// two places.
func TestP8StreamInPieces(t *testing.T) {
	first, second := onStream(0, 1, raw(t, readHolder)), onStream(65535, 1, raw(t, "06 0007 0001"))
	all := first + second + first[:7]
	want := []string{sent(0, onStream(0, 1, raw(t, noughtRead))), sent(0, onStream(65535, 1, raw(t, "06 0007 0001")))}
	whole := func(n int) int {
		if n < len(first) {
			return 0
		}
		return 1 + min(1, n/len(first+second))
	}
	for i := range len(all) + 1 {
		for j := i; j <= len(all); j++ {
			r := newRig(t, plain())
			r.wants("P8: Feed", r.feed(0, all[:i]), want[:whole(i)]...)
			r.wants("P8: Feed", r.feed(0, ""))
			r.wants("P8: Feed", r.feed(0, all[i:j]), want[whole(i):whole(j)]...)
			r.wants("P8: Tick", r.tick())
			r.wants("P8: Feed", r.feed(0, all[j:]), want[whole(j):]...)
			r.wants("P8: the third", r.feed(0, first[7:]), want[0])
		}
	}
}

func TestP8StreamUnits(t *testing.T) {
	for _, own := range []int{1, 17, 247} {
		c := plain()
		c.Unit = own
		r := newRig(t, c)
		for unit := range 256 {
			seen := r.feed(0, onStream(unit, unit, raw(t, "06 0007 0001")))
			if unit == own {
				r.wants("P8: its own unit", seen, sent(0, onStream(unit, unit, raw(t, "06 0007 0001"))))
				r.ask("06 0007 0000")
			} else {
				r.wants(fmt.Sprintf("P8: unit %d", unit), seen)
				r.wantsNoughts(fmt.Sprintf("P8: unit %d on a Stream", unit))
			}
		}
	}
}

// TestP8Breaks lets a line break with each byte that may, in one Feed with the
// request ahead of it, and byte by byte.
func TestP8Breaks(t *testing.T) {
	request, told := onStream(1, 1, raw(t, readHolder)), sent(0, onStream(1, 1, raw(t, noughtRead)))
	for _, bad := range []string{
		"\x00\x01\x01", "\x00\x01\x00\x01", "\x00\x01\x00\x00\x01", "\x00\x01\x00\x00\x00\x00",
		"\x00\x01\x00\x00\x00\x01", "\x00\x01\x00\x00\x00\xff", "\x00\x01\xff\xff\xff\xff",
	} {
		r := newRig(t, plain())
		r.wants("P8: ahead of the break", r.feed(0, request+bad+request), told)
		r.wants("P8: behind the break", r.feed(0, request))
		r.wants("P8: behind the break", r.feed(0, strings.Repeat("\x00", 300)+request))
		r.wants("P8: another line", r.feed(2, request), strings.Replace(told, "0:", "2:", 1))

		r = newRig(t, plain())
		for i := range bad {
			r.wants("P8: byte by byte", r.feed(0, bad[i:i+1]))
		}
		r.wants("P8: broken byte by byte", r.feed(0, request))
	}
}

// TestP8BreakShowsAtOnce has the byte that shows the break come last: had the line
// not broken with it, what follows would make it right.
func TestP8BreakShowsAtOnce(t *testing.T) {
	request := onStream(1, 1, raw(t, readHolder))
	r := newRig(t, plain())
	r.feed(0, "\x00\x01\x00\x00\x00")
	r.feed(0, "\x01")
	r.wants("P8: a length of 1", r.feed(0, "\x00"+request))
}

func TestP8BrokenLineIsStillAnswered(t *testing.T) {
	r := newRig(t, plain())
	r.wants("P8: kept", r.ask("06 0000 0001"))
	r.wants("P8: the break", r.feed(0, "\x00\x00\x01"))
	r.wants("P8: Flush", r.flush(), "safe", r.answer("06 0000 0001"))
}

func TestP8NothingBreaksASerialLine(t *testing.T) {
	r := newRig(t, plain())
	for _, s := range []string{"\x00\x01\x01", strings.Repeat("\xff", 1000), "x"} {
		r.feed(1, s)
		r.wants("P8: nothing", r.tick())
	}
	r.feed(1, onSerial(1, raw(t, readHolder)))
	r.wants("P8: behind it", r.tick(), sent(1, onSerial(1, raw(t, noughtRead))))
}

func TestP8SerialInPieces(t *testing.T) {
	request, told := onSerial(1, raw(t, "06 0007 0203")), sent(1, onSerial(1, raw(t, "06 0007 0203")))
	for i := range len(request) + 1 {
		r := newRig(t, plain())
		r.wants("P8: Feed", r.feed(1, request[:i]))
		r.wants("P8: Feed", r.feed(1, request[i:]))
		r.wantsNoughts("P8: ahead of the tick")
		r.wants("P8: Tick", r.tick(), told)
		r.wants("P8: Tick again", r.tick())

		if i > 0 && i < len(request) {
			r = newRig(t, plain())
			r.feed(1, request[:i])
			r.wants("P8: half of it", r.tick())
			r.feed(1, request[i:])
			r.wants("P8: the other half", r.tick())
			r.wantsNoughts("P8: with silence in it")
		}
	}
}

func TestP8SerialTwoAtOnce(t *testing.T) {
	request := onSerial(1, raw(t, readHolder))
	r := newRig(t, plain())
	r.feed(1, request+request)
	r.wants("P8: two requests without silence", r.tick())
}

func TestP8SerialWrongCheck(t *testing.T) {
	request := []byte(onSerial(1, raw(t, "06 0007 0203")))
	for bit := range 8 * len(request) {
		wrong := slices.Clone(request)
		wrong[bit/8] ^= 1 << (bit % 8)
		r := newRig(t, plain())
		r.feed(1, string(wrong))
		r.wants("P8: a wrong check", r.tick())
		r.wantsNoughts("P8: a wrong check")
	}
}

// TestP8SerialSizes has requests of all sizes about the bounds; none of the
// greater ones is right, but within the bounds that is told.
func TestP8SerialSizes(t *testing.T) {
	for _, size := range []int{1, 2, 252, 253, 254, 255, 512, 1000} {
		body := "\x07" + strings.Repeat("\x00", size-1)
		for _, cut := range []int{0, 1, 200, 1000} {
			r := newRig(t, plain())
			request := onSerial(1, body)
			cut = min(cut, len(request))
			r.feed(1, request[:cut])
			r.feed(1, request[cut:])
			if size <= 253 {
				r.wants("P8: a body within bounds", r.tick(), sent(1, onSerial(1, "\x87\x01")))
			} else {
				r.wants("P8: too many bytes", r.tick())
			}
			r.feed(1, onSerial(1, raw(t, readHolder)))
			r.wants("P8: behind it", r.tick(), sent(1, onSerial(1, raw(t, noughtRead))))
		}
	}
	r := newRig(t, plain())
	for size := range 4 {
		r.feed(1, onSerial(1, raw(t, readHolder))[:size])
		r.wants("P8: too few bytes", r.tick())
	}
	r.feed(1, onSerial(1, ""))
	r.wants("P8: no body", r.tick())
}

// TestP8SerialTooManyAheadOfARequest would find a line that keeps the last bytes
// of too many.
func TestP8SerialTooManyAheadOfARequest(t *testing.T) {
	request := onSerial(1, raw(t, readHolder))
	for _, ahead := range []int{1, 248, 249, 256, 257, 512} {
		r := newRig(t, plain())
		r.feed(1, strings.Repeat("\x01", ahead))
		r.feed(1, request)
		r.wants("P8: bytes ahead of a request", r.tick())
		r.feed(1, request+strings.Repeat("\x01", ahead))
		r.wants("P8: bytes behind a request", r.tick())
	}
}

// TestP8SerialOneTooMany has a right request of the greatest size ahead of the
// byte that is too many.
func TestP8SerialOneTooMany(t *testing.T) {
	request := onSerial(1, "\x07"+strings.Repeat("\x00", 252))
	for _, behind := range []string{"\x00", "\x00\x00", strings.Repeat("\x00", 300)} {
		r := newRig(t, plain())
		r.feed(1, request+behind)
		r.wants("P8: in one Feed", r.tick())
		r.feed(1, request)
		r.feed(1, behind)
		r.wants("P8: in two", r.tick())
		r.feed(1, request)
		r.wants("P8: the request alone", r.tick(), sent(1, onSerial(1, "\x87\x01")))
	}
}

func TestP8SerialUnits(t *testing.T) {
	for _, own := range []int{1, 247} {
		c := plain()
		c.Unit = own
		r := newRig(t, c)
		for unit := 1; unit < 256; unit++ {
			request := onSerial(unit, raw(t, "06 0007 0001"))
			r.feed(1, request)
			seen := r.tick()
			if unit == own {
				r.wants("P8: its own unit", seen, sent(1, request))
				r.ask("06 0007 0000")
			} else {
				r.wants(fmt.Sprintf("P8: unit %d", unit), seen)
				r.wantsNoughts(fmt.Sprintf("P8: unit %d on a Serial line", unit))
			}
		}
	}
}

// TestP8ToAll writes volatile entries by each function that may go to all.
func TestP8ToAll(t *testing.T) {
	for body, want := range map[string][2]int{
		"05 000b ff00":             {1, 0},
		"0f 000b 0001 01 01":       {1, 0},
		"06 0006 0007":             {0, 7},
		"10 0006 0001 02 0007":     {0, 7},
		"16 0006 0000 0007":        {0, 7},
		"0f 000a 0003 01 02":       {1, 0},
		"10 0005 0002 04 00000007": {0, 7},
	} {
		r := newRig(t, plain())
		r.feed(3, onSerial(0, raw(t, body)))
		r.wants("P8: to all: "+body, r.tick())
		if coil, holder := r.look(api.Coils)[11], r.look(api.Holders)[6]; coil != want[0] || holder != want[1] {
			t.Errorf("P8: to all: %s: %d and %d, want %d", body, coil, holder, want)
		}
		r.wants("P8: Flush", r.flush())

		r = newRig(t, plain())
		r.wants("P8: on a Stream: "+body, r.feed(0, onStream(1, 0, raw(t, body))))
		r.wantsNoughts("P8: on a Stream: " + body)
	}
}

func TestP8ToAllIsNothing(t *testing.T) {
	r := newRig(t, plain())
	for _, body := range []string{
		"01 0000 0001", "02 0000 0001", "03 0000 0001", "04 0000 0001", "17 0006 0001 0006 0001 02 0007",
		"07", "05 0000 0001", "06 0000", "06 000a 0001", "0f 0013 0002 01 03", "10 0009 0002 04 0001 0001", "16 000a 0000 0001",
		"17 0000 0001 0000 0001 02 0007",
	} {
		r.feed(1, onSerial(0, raw(t, body)))
		r.wants("P8: to all: "+body, r.tick())
		r.wants("P8: Flush behind "+body, r.flush())
		r.wantsNoughts("P8: to all: " + body)
	}
}

// TestP8ToAllMakesWait has a kept write that is not answered itself.
func TestP8ToAllMakesWait(t *testing.T) {
	r := newRig(t, plain())
	r.feed(1, onSerial(0, raw(t, "06 0002 0005")))
	r.feed(3, onSerial(1, raw(t, "03 0002 0001")))
	r.wants("P8: Tick", r.tick())
	r.wants("P8: behind it", r.ask("04 0000 0001"))
	r.wants("P8: Flush", r.flush(), "safe", sent(3, onSerial(1, raw(t, "03 02 0005"))), r.answer("04 02 0000"))
}

// TestP8TickLineByLine lets the lines hear by turns, in any order; the requests
// are taken by the number of the line, whoever looks at it.
func TestP8TickLineByLine(t *testing.T) {
	for lines := 1; lines <= 4; lines++ {
		for turn := range 40 {
			c := plain()
			c.Lines = slices.Repeat([]int{api.Serial}, lines)
			r := newRig(t, c)
			var want []string
			for i := range lines {
				line := (turn + lines - i) % lines
				r.feed(line, onSerial(1, "\x17"+pack.Words(6, 1, 6, 1)+"\x02"+pack.Words(line+1)))
				want = append(want, sent(i, onSerial(1, "\x17\x02"+pack.Words(i+1))))
			}
			r.wants("P8: Tick", r.tick(), want...)
			r.wantsEntries("P8: the last line's", api.Holders, 0, 0, 0, 0, 0, 0, lines, 0, 0, 0)
		}
	}
}

// TestP8TickOfSomeLines has each choice of four Serial lines hear a request,
// and the others nothing, or what is none.
func TestP8TickOfSomeLines(t *testing.T) {
	c := plain()
	c.Lines = []int{1, 1, 1, 1}
	for choice := range 16 {
		for _, other := range []string{"", "no request"} {
			r := newRig(t, c)
			var want []string
			for line := range 4 {
				if choice>>line&1 == 1 {
					r.feed(line, onSerial(1, raw(t, readHolder)))
					want = append(want, sent(line, onSerial(1, raw(t, noughtRead))))
				} else {
					r.feed(line, other)
				}
			}
			r.wants(fmt.Sprintf("P8: Tick of %04b", choice), r.tick(), want...)
		}
	}
}

// TestP1NothingGoesOnBehindATick counts what runs, with some time for what has
// ended to be counted no more.
func TestP1NothingGoesOnBehindATick(t *testing.T) {
	r := newRig(t, plain())
	before := runtime.NumGoroutine()
	for range 500 {
		r.feed(1, onSerial(1, raw(t, readHolder)))
		r.tick()
	}
	for range 100 {
		if runtime.NumGoroutine() <= before {
			return
		}
		time.Sleep(10 * time.Millisecond)
	}
	t.Errorf("P1: %d goroutines go on, there were %d", runtime.NumGoroutine(), before)
}
