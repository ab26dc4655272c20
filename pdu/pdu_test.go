package pdu

import (
	"encoding/binary"
	"encoding/hex"
	"math/rand"
	"reflect"
	"strings"
	"testing"

	"latch/api"
)

func raw(t *testing.T, s string) string {
	t.Helper()
	b, err := hex.DecodeString(strings.ReplaceAll(s, " ", ""))
	if err != nil {
		t.Fatal(err)
	}
	return string(b)
}

// asWords are numbers as they stand in a body.
func asWords(numbers ...int) string {
	var b []byte
	for _, n := range numbers {
		b = binary.BigEndian.AppendUint16(b, uint16(n))
	}
	return string(b)
}

func asByte(n int) string { return string([]byte{byte(n)}) }

// asBits lays bits into bytes by adding up, where the program takes them apart.
func asBits(list []int) string {
	b := make([]byte, (len(list)+7)/8)
	for i, bit := range list {
		b[i/8] += byte(bit << (i % 8))
	}
	return string(b)
}

// bodyOf is the request that reads and writes what a Shape says, with any
// numbers, right or not.
func bodyOf(s api.Shape) string {
	f := asByte(s.Function)
	switch s.Function {
	case 1, 2, 3, 4:
		return f + asWords(s.From, s.Count)
	case 5:
		return f + asWords(s.To, 0xff00*s.Values[0])
	case 6:
		return f + asWords(s.To, s.Values[0])
	case 15:
		data := asBits(s.Values)
		return f + asWords(s.To, s.Many) + asByte(len(data)) + data
	case 16:
		return f + asWords(s.To, s.Many) + asByte(2*s.Many) + asWords(s.Values...)
	case 22:
		return f + asWords(s.To, s.Values[0], s.Values[1])
	}
	return f + asWords(s.From, s.Count, s.To, s.Many) + asByte(2*s.Many) + asWords(s.Values...)
}

// same holds a Shape against what it should be, lists that are not there and
// empty ones being one.
func same(a, b api.Shape) bool {
	if len(a.Values) == 0 && len(b.Values) == 0 {
		a.Values, b.Values = nil, nil
	}
	return reflect.DeepEqual(a, b)
}

func wantShape(t *testing.T, body string, want api.Shape) {
	t.Helper()
	got, exception := Shape(body)
	if exception != 0 || !same(got, want) {
		t.Errorf("Shape(%x) = %+v, %d, want %+v, 0", body, got, exception, want)
	}
}

func wantException(t *testing.T, body string, want uint8) {
	t.Helper()
	got, exception := Shape(body)
	if exception != want || !same(got, api.Shape{}) {
		t.Errorf("Shape(%x) = %+v, %d, want a zero Shape, %d", body, got, exception, want)
	}
}

// The Shapes of right requests, one maker for each function.

func readShape(function, from, count int) api.Shape {
	return api.Shape{Function: function, Table: function - 1, From: from, Count: count}
}

func coilsShape(to int, values []int) api.Shape {
	return api.Shape{Function: 15, To: to, Many: len(values), Values: values}
}

func holdersShape(to int, values []int) api.Shape {
	return api.Shape{Function: 16, Into: api.Holders, To: to, Many: len(values), Values: values}
}

func maskShape(at, x, y int) api.Shape {
	return api.Shape{
		Function: 22, Table: api.Holders, From: at, Count: 1,
		Into: api.Holders, To: at, Many: 1, Values: []int{x, y},
	}
}

func exchangeShape(from, count, to int, values []int) api.Shape {
	return api.Shape{
		Function: 23, Table: api.Holders, From: from, Count: count,
		Into: api.Holders, To: to, Many: len(values), Values: values,
	}
}

func randomValues(r *rand.Rand, n, below int) []int {
	list := make([]int, n)
	for i := range list {
		list[i] = r.Intn(below)
	}
	return list
}

var functions = []int{1, 2, 3, 4, 5, 6, 15, 16, 22, 23}

func randomShape(r *rand.Rand, function int) api.Shape {
	at, to := r.Intn(65536), r.Intn(65536)
	switch function {
	case 1, 2:
		return readShape(function, at, 1+r.Intn(2000))
	case 3, 4:
		return readShape(function, at, 1+r.Intn(125))
	case 5:
		return api.Shape{Function: 5, To: to, Many: 1, Values: randomValues(r, 1, 2)}
	case 6:
		return api.Shape{Function: 6, Into: 2, To: to, Many: 1, Values: randomValues(r, 1, 65536)}
	case 15:
		return coilsShape(to, randomValues(r, 1+r.Intn(1968), 2))
	case 16:
		return holdersShape(to, randomValues(r, 1+r.Intn(123), 65536))
	case 22:
		return maskShape(at, r.Intn(65536), r.Intn(65536))
	}
	return exchangeShape(at, 1+r.Intn(125), to, randomValues(r, 1+r.Intn(121), 65536))
}

func TestP5Examples(t *testing.T) {
	wantShape(t, raw(t, "17 0000 0002 0005 0001 02 0007"), api.Shape{
		Function: 23, Table: 2, From: 0, Count: 2, Into: 2, To: 5, Many: 1, Values: []int{7},
	})
	wantShape(t, raw(t, "05 0003 ff00"), api.Shape{
		Function: 5, Into: 0, To: 3, Many: 1, Values: []int{1},
	})
	wantShape(t, raw(t, "16 0003 00f2 0025"), api.Shape{
		Function: 22, Table: 2, From: 3, Count: 1, Into: 2, To: 3, Many: 1, Values: []int{242, 37},
	})
	wantException(t, raw(t, "07"), api.Function)
	wantException(t, raw(t, "03 0000 0000"), api.Value)
}

func TestP5OrdinaryBodies(t *testing.T) {
	for _, c := range []struct {
		body string
		want api.Shape
	}{
		{"01 0102 0304", api.Shape{Function: 1, Table: api.Coils, From: 0x102, Count: 0x304}},
		{"02 0102 0304", api.Shape{Function: 2, Table: api.Switches, From: 0x102, Count: 0x304}},
		{"03 fffe 0005", api.Shape{Function: 3, Table: api.Holders, From: 0xfffe, Count: 5}},
		{"04 0009 0006", api.Shape{Function: 4, Table: api.Inputs, From: 9, Count: 6}},
		{"05 0102 ff00", api.Shape{Function: 5, Into: api.Coils, To: 0x102, Many: 1, Values: []int{1}}},
		{"05 0102 0000", api.Shape{Function: 5, Into: api.Coils, To: 0x102, Many: 1, Values: []int{0}}},
		{"06 0102 0304", api.Shape{Function: 6, Into: api.Holders, To: 0x102, Many: 1, Values: []int{0x304}}},
		{"0f 0102 000b 02 3504", api.Shape{
			Function: 15, Into: api.Coils, To: 0x102, Many: 11,
			Values: []int{1, 0, 1, 0, 1, 1, 0, 0, 0, 0, 1},
		}},
		{"10 0102 0002 04 0304 fffe", api.Shape{
			Function: 16, Into: api.Holders, To: 0x102, Many: 2, Values: []int{0x304, 0xfffe},
		}},
		{"16 0102 0304 0506", api.Shape{
			Function: 22, Table: api.Holders, From: 0x102, Count: 1,
			Into: api.Holders, To: 0x102, Many: 1, Values: []int{0x304, 0x506},
		}},
		{"17 0102 0003 0405 0002 04 0607 0809", api.Shape{
			Function: 23, Table: api.Holders, From: 0x102, Count: 3,
			Into: api.Holders, To: 0x405, Many: 2, Values: []int{0x607, 0x809},
		}},
	} {
		wantShape(t, raw(t, c.body), c.want)
	}
}

func TestP5AnyRightBody(t *testing.T) {
	r := rand.New(rand.NewSource(5))
	for range 400 {
		for _, function := range functions {
			s := randomShape(r, function)
			wantShape(t, bodyOf(s), s)
		}
	}
}

// An address is not held against anything: no table is known here.
func TestP5AddressEdges(t *testing.T) {
	for _, at := range []int{0, 1, 255, 256, 59, 60, 65534, 65535} {
		for function := 1; function <= 4; function++ {
			s := readShape(function, at, 100)
			wantShape(t, bodyOf(s), s)
		}
		for _, s := range []api.Shape{
			{Function: 5, To: at, Many: 1, Values: []int{1}},
			{Function: 6, Into: api.Holders, To: at, Many: 1, Values: []int{65535}},
			coilsShape(at, []int{1, 0, 1}),
			holdersShape(at, []int{65535, 0}),
			maskShape(at, 65535, 0),
			exchangeShape(at, 125, 65535-at, []int{0, 65535}),
		} {
			wantShape(t, bodyOf(s), s)
		}
	}
}

func TestP5ReadCountEdges(t *testing.T) {
	for function, most := range map[int]int{1: 2000, 2: 2000, 3: 125, 4: 125} {
		for count := range 65536 {
			s := readShape(function, 7, count)
			if count >= 1 && count <= most {
				wantShape(t, bodyOf(s), s)
			} else {
				wantException(t, bodyOf(s), api.Value)
			}
		}
	}
}

func TestP5CoilCountEdges(t *testing.T) {
	r := rand.New(rand.NewSource(15))
	for many := 0; many <= 2000; many++ {
		s := coilsShape(7, randomValues(r, many, 2))
		if many >= 1 && many <= 1968 {
			wantShape(t, bodyOf(s), s)
		} else {
			wantException(t, bodyOf(s), api.Value)
		}
	}
	// One more than the most in just as many bytes as a body has room for.
	wantException(t, raw(t, "0f 0007 07b1 f7")+strings.Repeat("\x01", 247), api.Value)
	wantException(t, raw(t, "0f 0007 07b1 f6")+strings.Repeat("\x01", 246), api.Value)
	// Counts that would be right if the high byte were not looked at.
	wantException(t, raw(t, "0f 0007 8008 01 ff"), api.Value)
	wantException(t, raw(t, "0f 0007 ffff 00"), api.Value)
}

func TestP5HolderCountEdges(t *testing.T) {
	r := rand.New(rand.NewSource(16))
	for many := 0; many <= 130; many++ {
		s := holdersShape(7, randomValues(r, many, 65536))
		if many >= 1 && many <= 123 {
			wantShape(t, bodyOf(s), s)
		} else {
			wantException(t, bodyOf(s), api.Value)
		}
	}
	wantException(t, raw(t, "10 0007 007c f7")+strings.Repeat("\x01", 247), api.Value)
	// 2n that would be right if it wrapped round in a byte.
	wantException(t, raw(t, "10 0007 0081 02 0001"), api.Value)
	wantException(t, raw(t, "10 0007 0080 00"), api.Value)
	wantException(t, raw(t, "10 0007 8001 02 0001"), api.Value)
}

func TestP5ExchangeCountEdges(t *testing.T) {
	r := rand.New(rand.NewSource(23))
	for many := 0; many <= 125; many++ {
		for _, count := range []int{0, 1, 2, 124, 125, 126, 127, 256, 257, 65535} {
			s := exchangeShape(7, count, 8, randomValues(r, many, 65536))
			if many >= 1 && many <= 121 && count >= 1 && count <= 125 {
				wantShape(t, bodyOf(s), s)
			} else {
				wantException(t, bodyOf(s), api.Value)
			}
		}
	}
	wantException(t, raw(t, "17 0000 0001 0000 007a f3")+strings.Repeat("\x01", 243), api.Value)
	wantException(t, raw(t, "17 0000 0001 0000 0081 02 0001"), api.Value)
	wantException(t, raw(t, "17 0000 0001 0000 8001 02 0001"), api.Value)
}

// withSize is a body with another byte c, its data cut or filled up to it or
// left as they are.
func withSize(body string, at, size int, fit bool) string {
	data := body[at+1:]
	if fit {
		data = (data + strings.Repeat("\x00", 256))[:size]
	}
	return body[:at] + asByte(size) + data
}

func TestP5SizeByte(t *testing.T) {
	for _, c := range []struct {
		shape api.Shape
		at    int // where c stands
	}{
		{coilsShape(0, []int{1}), 5},
		{coilsShape(0, make([]int, 8)), 5},
		{coilsShape(0, make([]int, 9)), 5},
		{coilsShape(0, make([]int, 1968)), 5},
		{holdersShape(0, []int{1}), 5},
		{holdersShape(0, make([]int, 100)), 5},
		{holdersShape(0, make([]int, 123)), 5},
		{exchangeShape(0, 1, 0, []int{1}), 9},
		{exchangeShape(0, 1, 0, make([]int, 100)), 9},
		{exchangeShape(0, 1, 0, make([]int, 121)), 9},
	} {
		body := bodyOf(c.shape)
		for size := range 256 {
			for _, fit := range []bool{false, true} {
				other := withSize(body, c.at, size, fit)
				if other == body {
					wantShape(t, other, c.shape)
				} else {
					wantException(t, other, api.Value)
				}
			}
		}
	}
}

func TestP5CutOffAndLengthened(t *testing.T) {
	r := rand.New(rand.NewSource(51))
	for _, function := range functions {
		for range 20 {
			body := bodyOf(randomShape(r, function))
			for end := 1; end < len(body); end++ {
				wantException(t, body[:end], api.Value)
			}
			wantException(t, body+"\x00", api.Value)
			wantException(t, body+"\x01", api.Value)
			wantException(t, body+body, api.Value)
		}
	}
}

func TestP5CoilValues(t *testing.T) {
	for v := range 65536 {
		body := "\x05" + asWords(9, v)
		switch v {
		case 0, 65280:
			s := api.Shape{Function: 5, To: 9, Many: 1, Values: []int{v / 65280}}
			wantShape(t, body, s)
		default:
			wantException(t, body, api.Value)
		}
	}
}

func TestP5HolderValues(t *testing.T) {
	for v := range 65536 {
		s := api.Shape{Function: 6, Into: api.Holders, To: 9, Many: 1, Values: []int{v}}
		wantShape(t, bodyOf(s), s)
		wantShape(t, bodyOf(maskShape(9, v, 65535-v)), maskShape(9, v, 65535-v))
	}
}

func TestP5BitOrder(t *testing.T) {
	for at := range 24 {
		values := make([]int, 24)
		values[at] = 1
		data := []byte{0, 0, 0}
		data[at/8] = []byte{1, 2, 4, 8, 16, 32, 64, 128}[at%8]
		wantShape(t, raw(t, "0f 0000 0018 03")+string(data), coilsShape(0, values))
	}
}

func TestP5LeftOverBits(t *testing.T) {
	r := rand.New(rand.NewSource(52))
	for many := 1; many <= 40; many++ {
		s := coilsShape(3, randomValues(r, many, 2))
		body := []byte(bodyOf(s))
		for left := many; left%8 != 0; left++ {
			body[len(body)-1] |= 1 << (left % 8)
			wantShape(t, string(body), s)
		}
	}
}

func known(function int) bool {
	for _, f := range functions {
		if f == function {
			return true
		}
	}
	return false
}

func TestP5UnknownFunctions(t *testing.T) {
	for function := range 256 {
		for _, length := range []int{1, 2, 5, 6, 7, 8, 12, 252, 253} {
			body := asByte(function) + strings.Repeat("\x00", length-1)
			if !known(function) {
				wantException(t, body, api.Function)
			} else if _, exception := Shape(body); exception == api.Function {
				t.Errorf("Shape(%x): no such function, but there is", body)
			}
		}
	}
}

func TestP5BodyLengthEdges(t *testing.T) {
	wantException(t, "", api.Value)
	for function := range 256 {
		want := api.Function
		if known(function) {
			want = api.Value
		}
		f := asByte(function)
		wantException(t, f, want)
		wantException(t, f+strings.Repeat("\x01", 252), want)
		// What is too long is not looked at, its function neither.
		wantException(t, f+strings.Repeat("\x01", 253), api.Value)
		wantException(t, f+strings.Repeat("\x01", 1000), api.Value)
	}
	wantException(t, strings.Repeat("\x07", 1<<20), api.Value)
}

// claimed is the Shape that the numbers of a body speak of, whether or not
// they may be, with noughts for what is missing.
func claimed(body string) api.Shape {
	b := []byte(body + strings.Repeat("\x00", 4096))
	at := func(i int) int { return int(binary.BigEndian.Uint16(b[i:])) }
	list := func(from, n int) []int {
		var l []int
		for i := range min(n, 1000) {
			l = append(l, at(from+2*i))
		}
		return l
	}
	switch b[0] {
	case 1, 2, 3, 4:
		return readShape(int(b[0]), at(1), at(3))
	case 5:
		return api.Shape{Function: 5, To: at(1), Many: 1, Values: []int{at(3) >> 15}}
	case 6:
		return api.Shape{Function: 6, Into: 2, To: at(1), Many: 1, Values: list(3, 1)}
	case 15:
		values := make([]int, min(at(3), 8000))
		for i := range values {
			values[i] = int(b[6+i/8]) >> (i % 8) % 2
		}
		return coilsShape(at(1), values)
	case 16:
		return holdersShape(at(1), list(6, at(3)))
	case 22:
		return maskShape(at(1), at(3), at(5))
	}
	return exchangeShape(at(1), at(3), at(5), list(10, at(7)))
}

func mayBe(s api.Shape) bool {
	most := map[int][2]int{
		1: {2000, 0}, 2: {2000, 0}, 3: {125, 0}, 4: {125, 0}, 5: {0, 1}, 6: {0, 1},
		15: {0, 1968}, 16: {0, 123}, 22: {1, 1}, 23: {125, 121},
	}[s.Function]
	fits := func(n, most int) bool { return most == 0 || n >= 1 && n <= most }
	return fits(s.Count, most[0]) && fits(s.Many, most[1])
}

// oracle reads a body and writes it again: it is right if it comes out as it
// went in, but for bits that are left over.
func oracle(body string) (api.Shape, uint8) {
	if len(body) == 0 || len(body) > 253 {
		return api.Shape{}, api.Value
	}
	if !known(int(body[0])) {
		return api.Shape{}, api.Function
	}
	s := claimed(body)
	again := bodyOf(s)
	if body[0] == 15 && len(again) == len(body) && s.Many%8 != 0 {
		last := len(body) - 1
		body = body[:last] + asByte(int(body[last])%(1<<(s.Many%8)))
	}
	if !mayBe(s) || again != body {
		return api.Shape{}, api.Value
	}
	return s, 0
}

// spoil changes a body a little, or not at all.
func spoil(r *rand.Rand, body string) string {
	b := []byte(body)
	switch r.Intn(5) {
	case 0:
		b[r.Intn(len(b))] = byte(r.Intn(256))
	case 1:
		head := min(len(b), 10)
		b[r.Intn(head)] += byte(r.Intn(3)) - 1
	case 2:
		b = b[:r.Intn(len(b)+1)]
	case 3:
		b = append(b, byte(r.Intn(256)))
	}
	return string(b)
}

func TestP5AgainstOracle(t *testing.T) {
	r := rand.New(rand.NewSource(53))
	right := 0
	for range 3000 {
		for _, function := range functions {
			body := spoil(r, bodyOf(randomShape(r, function)))
			want, exception := oracle(body)
			if exception == 0 {
				right++
				wantShape(t, body, want)
			} else {
				wantException(t, body, exception)
			}
		}
	}
	if right == 0 || right == 3000*len(functions) {
		t.Errorf("%d bodies were right: the trial tells nothing", right)
	}
}

func TestP1AnyText(t *testing.T) {
	r := rand.New(rand.NewSource(1))
	for function := range 256 {
		for length := range 300 {
			b := make([]byte, 1+length)
			r.Read(b)
			b[0] = byte(function)
			want, exception := oracle(string(b))
			if exception == 0 {
				wantShape(t, string(b), want)
			} else {
				wantException(t, string(b), exception)
			}
		}
	}
}

func TestP2ValuesAreTheCallers(t *testing.T) {
	r := rand.New(rand.NewSource(2))
	for _, function := range functions {
		want := randomShape(r, function)
		body := bodyOf(want)
		first, _ := Shape(body)
		for i := range first.Values {
			first.Values[i] = -1
		}
		_ = append(first.Values, -1)
		wantShape(t, body, want)
	}
}
