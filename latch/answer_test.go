package latch_test

import (
	"fmt"
	"strings"
	"testing"

	"latch/api"
	"latch/pack"
)

// unkept is a config whose answers are all sent at once.
func unkept(size int) api.Config {
	c := plain()
	c.Sizes, c.Coils, c.Holds = [4]int{size, size, size, size}, 0, 0
	return c
}

// asks holds the answer to each request to what it must be.
func (r *rig) asks(pairs [][2]string) {
	r.t.Helper()
	for _, p := range pairs {
		r.wants("P8: "+p[0], r.ask(p[0]), r.answer(p[1]))
	}
}

func TestP8ReadBits(t *testing.T) {
	r := newRig(t, unkept(20))
	r.d.Put(api.Switches, 1, 1)
	r.d.Put(api.Switches, 8, 1)
	r.d.Put(api.Switches, 19, 1)
	r.asks([][2]string{
		{"02 0000 0001", "02 01 00"},
		{"02 0001 0001", "02 01 01"},
		{"02 0000 0008", "02 01 02"},
		{"02 0000 0009", "02 02 02 01"},
		{"02 0001 0008", "02 01 81"},
		{"02 0000 0014", "02 03 02 01 08"},
		{"02 0013 0001", "02 01 01"},
		{"01 0000 0014", "01 03 00 00 00"},
	})
}

func TestP8ReadWords(t *testing.T) {
	r := newRig(t, unkept(20))
	r.d.Put(api.Inputs, 2, 0x1234)
	r.d.Put(api.Inputs, 19, 65535)
	r.asks([][2]string{
		{"04 0002 0001", "04 02 1234"},
		{"04 0001 0003", "04 06 0000 1234 0000"},
		{"04 0013 0001", "04 02 ffff"},
		{"03 0001 0003", "03 06 0000 0000 0000"},
	})
}

func TestP8SetOne(t *testing.T) {
	r := newRig(t, unkept(20))
	r.asks([][2]string{
		{"05 0003 ff00", "05 0003 ff00"},
		{"05 0013 ff00", "05 0013 ff00"},
		{"01 0000 0014", "01 03 08 00 08"},
		{"05 0003 0000", "05 0003 0000"},
		{"01 0000 0014", "01 03 00 00 08"},
		{"06 0007 fedc", "06 0007 fedc"},
		{"06 0013 0001", "06 0013 0001"},
		{"03 0006 0003", "03 06 0000 fedc 0000"},
		{"03 0013 0001", "03 02 0001"},
	})
}

func TestP8SetSeveral(t *testing.T) {
	r := newRig(t, unkept(20))
	r.asks([][2]string{
		{"0f 0002 000a 02 fd ff", "0f 0002 000a"}, // bits are left over
		{"01 0000 0014", "01 03 f4 0f 00"},
		{"0f 0003 0008 01 00", "0f 0003 0008"},
		{"01 0000 0014", "01 03 04 08 00"},
		{"10 0011 0003 06 0001 ffff 0100", "10 0011 0003"},
		{"03 0010 0004", "03 08 0000 0001 ffff 0100"},
	})
}

func TestP8Mask(t *testing.T) {
	r := newRig(t, unkept(20))
	r.asks([][2]string{
		{"06 0004 0012", "06 0004 0012"},
		{"16 0004 00f2 0025", "16 0004 00f2 0025"},
		{"03 0003 0003", "03 06 0000 0017 0000"},
		{"16 0004 ffff 1234", "16 0004 ffff 1234"}, // all of the old
		{"03 0004 0001", "03 02 0017"},
		{"16 0004 0000 1234", "16 0004 0000 1234"}, // all of the new
		{"03 0004 0001", "03 02 1234"},
		{"16 0004 ff00 ffff", "16 0004 ff00 ffff"},
		{"03 0004 0001", "03 02 12ff"},
		{"16 0013 0000 8001", "16 0013 0000 8001"},
		{"03 0013 0001", "03 02 8001"},
	})
}

func TestP8ExchangeWritesFirst(t *testing.T) {
	r := newRig(t, unkept(20))
	r.asks([][2]string{
		{"17 0000 0003 0001 0002 04 0007 0008", "17 06 0000 0007 0008"},
		{"17 0001 0001 0001 0001 02 0009", "17 02 0009"},
		{"17 0013 0001 0000 0001 02 0005", "17 02 0000"},
		{"03 0000 0003", "03 06 0005 0009 0008"},
	})
}

func TestP8Refused(t *testing.T) {
	r := newRig(t, unkept(20))
	r.asks([][2]string{
		{"00", "80 01"}, {"07", "87 01"}, {"07 0000 0000", "87 01"}, {"80", "80 01"}, {"ff", "ff 01"}, {"83 0000 0001", "83 01"},
		{"01 0000 0000", "81 03"}, {"02 0000", "82 03"}, {"03 0000 0001 00", "83 03"}, {"04 0000 007e", "84 03"},
		{"05 0000 0001", "85 03"}, {"06", "86 03"}, {"0f 0000 0001 02 0000", "8f 03"}, {"10 0000 0002 04 0000", "90 03"},
		{"16 0000 0000", "96 03"}, {"17 0000 0000 0000 0001 02 0000", "97 03"},
		{"03 ffff 0000", "83 03"}, {"05 ffff 1234", "85 03"}, // Value is ahead of Address
	})
}

// TestP8LastAddress asks for the last entry, and for one more, of tables of
// several sizes, by each function.
func TestP8LastAddress(t *testing.T) {
	for _, size := range []int{0, 1, 2, 20, 60} {
		for _, first := range []int{0, size - 1, size, size + 1, 65535} {
			for _, count := range []int{1, 2, 60} {
				if first >= 0 {
					checkSpan(t, size, first, count)
				}
			}
		}
	}
}

func checkSpan(t *testing.T, size, first, count int) {
	t.Helper()
	span := fmt.Sprintf("%04x%04x", first, count)
	words := fmt.Sprintf("%02x", 2*count) + strings.Repeat("0001", count)
	bits := fmt.Sprintf("%02x", pack.BitsSize(count)) + strings.Repeat("ff", pack.BitsSize(count))
	bodies := []string{
		"01" + span, "02" + span, "03" + span, "04" + span, "0f" + span + bits, "10" + span + words,
		"17" + span + "0000 0001 02 0001", "17 0000 0001" + span + words,
	}
	if count == 1 {
		at := span[:4]
		bodies = append(bodies, "05"+at+"ff00", "06"+at+"0001", "16"+at+"0000 0001")
	}
	for _, body := range bodies {
		r := newRig(t, unkept(size))
		refused := r.answer(fmt.Sprintf("%02x02", raw(t, body)[0]|0x80))
		seen := r.ask(body)
		if first+count > size {
			r.wants(fmt.Sprintf("P8: %s of %d", body, size), seen, refused)
			r.wantsNoughts("P8: " + body + " is not done")
		} else if len(seen) != 1 || seen[0] == refused {
			t.Errorf("P8: %s of %d: %q", body, size, seen)
		}
	}
}

func (r *rig) wantsNoughts(what string) {
	r.t.Helper()
	for table := range 4 {
		r.wantsEntries(what, table, make([]int, r.c.Sizes[table])...)
	}
}

// TestP8TablesOfOtherSizes finds a request that is held to the size of
// another table than its own.
func TestP8TablesOfOtherSizes(t *testing.T) {
	c := unkept(0)
	c.Sizes = [4]int{2, 3, 4, 5}
	r := newRig(t, c)
	r.asks([][2]string{
		{"01 0000 0002", "01 01 00"}, {"01 0000 0003", "81 02"}, {"05 0001 0000", "05 0001 0000"}, {"05 0002 0000", "85 02"},
		{"02 0000 0003", "02 01 00"}, {"02 0000 0004", "82 02"},
		{"03 0003 0001", "03 02 0000"}, {"03 0004 0001", "83 02"}, {"06 0003 0000", "06 0003 0000"}, {"06 0004 0000", "86 02"},
		{"04 0004 0001", "04 02 0000"}, {"04 0005 0001", "84 02"},
	})
}

// TestP8GreatestRequests are the longest that these tables can answer.
func TestP8GreatestRequests(t *testing.T) {
	r := newRig(t, unkept(60))
	r.asks([][2]string{
		{"10 0000 003c 78" + strings.Repeat("abcd", 60), "10 0000 003c"},
		{"03 0000 003c", "03 78" + strings.Repeat("abcd", 60)},
		{"17 0000 003c 0000 003c 78" + strings.Repeat("1234", 60), "17 78" + strings.Repeat("1234", 60)},
		{"0f 0000 003c 08" + strings.Repeat("ff", 8), "0f 0000 003c"},
		{"01 0000 003c", "01 08" + strings.Repeat("ff", 7) + "0f"},
		{"10 0000 007b f6" + strings.Repeat("0001", 123), "90 02"},
	})
}
