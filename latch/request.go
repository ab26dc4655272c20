package latch

import (
	"latch/api"
	"latch/function"
	"latch/pack"
	"latch/pdu"
)

const refused = 0x80 // the bit that an answer's function has, if it is none

// request is one as its body says it.
type request struct {
	body      string
	shape     api.Shape
	exception uint8
}

func newRequest(body string) request {
	shape, exception := pdu.Shape(body)
	return request{body, shape, exception}
}

// onlyWrites tells whether a request may go to all units.
func (r request) onlyWrites() bool {
	return r.shape.Many > 0 && r.shape.Function != function.Exchange
}

// do does the request as a whole, or not at all; it tells the body of the
// answer, and whether a kept entry was written.
func (r request) do(t *tables) (string, bool) {
	exception := r.exception
	if exception == 0 && !t.has(r.shape) {
		exception = api.Address
	}
	if exception != 0 {
		return string([]byte{r.body[0] | refused, exception}), false
	}
	wroteKept := t.write(r.shape)
	return r.answer(t), wroteKept
}

// answer is the body of the answer to a request that is done.
func (r request) answer(t *tables) string {
	switch r.shape.Function {
	case function.SetCoil, function.SetHolder, function.MaskHolder:
		return r.body
	case function.SetCoils, function.SetHolders:
		return r.body[:1+2*pack.WordSize]
	}
	data := t.read(r.shape)
	return string([]byte{r.body[0], byte(len(data))}) + data
}
