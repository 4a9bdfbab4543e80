package wire

import (
	"math"
	"slices"

	"almanac/api"
	"almanac/num"
)

// Reader is bytes, of which those from at on remain.
type Reader struct {
	bytes []byte
	at    int
	made  bool // a Reader that New did not make looks like one of no bytes
}

// New is a reader of b: P3.2.
func New(b []byte) *Reader { return &Reader{bytes: slices.Clone(b), made: true} }

// Left is how many bytes remain: P3.2.
func (r *Reader) Left() int {
	if r == nil {
		return 0
	}
	return len(r.bytes) - r.at
}

// End is OK if no bytes remain: P3.2.
func (r *Reader) End() api.Errno {
	switch {
	case r == nil || !r.made:
		return api.ErrNil
	case r.Left() > 0:
		return api.ErrLong
	}
	return api.OK
}

// Num reads a number of at most most: P3.3.
func (r *Reader) Num(most uint64) (uint64, api.Errno) {
	return step(r, func() (uint64, api.Errno) { return r.takeNum(most) })
}

// Int reads an integer: P3.3.
func (r *Reader) Int() (int64, api.Errno) {
	return step(r, r.takeInt)
}

// Float reads a float: P3.3.
func (r *Reader) Float() (float64, api.Errno) {
	return step(r, r.takeFloat)
}

// Text reads a string of at most most bytes: P3.3.
func (r *Reader) Text(most int) (string, api.Errno) {
	return step(r, func() (string, api.Errno) { return r.takeText(most) })
}

// Byte reads a byte: P3.3.
func (r *Reader) Byte() (byte, api.Errno) {
	return step(r, r.takeByte)
}

// step is a step of r, if New made it. A step that fails may have read some bytes, and may answer what it has of its result: both are undone.
func step[T any](r *Reader, take func() (T, api.Errno)) (taken T, err api.Errno) {
	if r == nil || !r.made {
		return taken, api.ErrNil
	}
	start := r.at
	defer func() {
		if err != api.OK {
			var none T
			r.at, taken = start, none
		}
	}()
	return take()
}

func (r *Reader) takeByte() (byte, api.Errno) {
	if r.Left() == 0 {
		return 0, api.ErrShort
	}
	c := r.bytes[r.at]
	r.at++
	return c, api.OK
}

func (r *Reader) takeNum(most uint64) (uint64, api.Errno) {
	head, err := r.takeByte()
	if err != api.OK {
		return 0, err
	}
	n, err := r.takeSized(int(head), 0, math.MaxUint64)
	if err == api.OK && n > most {
		err = api.ErrLong
	}
	return n, err
}

func (r *Reader) takeInt() (int64, api.Errno) {
	head, err := r.takeByte()
	if err != api.OK {
		return 0, err
	}
	if head >= plusHead {
		n, err := r.takeSized(int(head-plusHead), 0, math.MaxInt64)
		return int64(n), err
	}
	n, err := r.takeSized(int(minusHead-head), 255, math.MaxInt64)
	return -int64(n) - 1, err
}

func (r *Reader) takeFloat() (float64, api.Errno) {
	nan := place(num.Canon(math.NaN()))
	n, err := r.takeDigits(mostDigits, 0, span{place(math.Inf(-1)), place(math.Inf(1))}, span{nan, nan})
	return floatAt(n), err
}

func (r *Reader) takeText(most int) (string, api.Errno) {
	if most < 0 {
		return "", api.ErrArg
	}
	var s []byte
	for {
		c, err := r.takeByte()
		if err != api.OK {
			return "", err
		}
		if c == zero {
			mark, err := r.takeByte()
			switch {
			case err != api.OK:
				return "", err
			case mark == end && len(s) > most:
				return "", api.ErrLong
			case mark == end:
				return string(s), api.OK
			case mark != inner:
				return "", api.ErrForm
			}
		}
		s = append(s, c)
	}
}

// span is the numbers from low to high.
type span struct{ low, high uint64 }

// meets tells whether some number is in both spans.
func (s span) meets(t span) bool { return s.low <= t.high && t.low <= s.high }

// takeSized reads count digits, each of them XOR flip: a number that has no fewer digits, and is at most most.
func (r *Reader) takeSized(count int, flip byte, most uint64) (uint64, api.Errno) {
	if count > mostDigits {
		return 0, api.ErrForm
	}
	least := uint64(0)
	if count > 0 {
		least = 1 << (8 * (count - 1))
	}
	return r.takeDigits(count, flip, span{least, most})
}

// takeDigits reads count digits, each of them XOR flip: a number in one of the spans. If fewer remain, they are short only if a number in one of the spans begins so: what begins so is a span, too.
func (r *Reader) takeDigits(count int, flip byte, spans ...span) (uint64, api.Errno) {
	there := min(count, r.Left())
	var n uint64
	for _, c := range r.bytes[r.at : r.at+there] {
		n = n<<8 | uint64(c^flip)
	}
	r.at += there
	open := 8 * (count - there)
	begins := span{n << open, n<<open | (1<<open - 1)}
	switch {
	case !slices.ContainsFunc(spans, begins.meets):
		return 0, api.ErrForm
	case there < count:
		return 0, api.ErrShort
	}
	return n, api.OK
}
