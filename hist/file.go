package hist

import (
	"bytes"
	"strconv"
	"strings"

	"almanac/api"
	"almanac/codec"
	"almanac/frame"
	"almanac/wire"
)

// The names of the files; that of a segment ends in its digits.
const (
	checkFile   = "check"
	newFile     = "check-new"
	segmentHead = "seg-"
	tooMany     = 10_000_000_000 // the first number that ten digits can't tell
)

// segmentFile is the name of the segment with these digits. The 1 ahead of them keeps their zeros, and is cut off.
func segmentFile(digits uint64) string {
	return segmentHead + strconv.FormatUint(tooMany+digits, 10)[1:]
}

// segmentDigits is the digits of the segment that has this name, and whether it is a segment's: then it is the name that their number gives.
func segmentDigits(name string) (uint64, bool) {
	n, err := strconv.ParseUint(strings.TrimPrefix(name, segmentHead), 10, 64)
	return n, err == nil && n > 0 && segmentFile(n) == name
}

// batchBytes is the encoding of x in the log. It is valid, so that all its parts have encodings, and none is too long for a frame.
func batchBytes(x api.Batch) []byte {
	var b []byte
	for _, o := range x.Ops {
		body, _ := codec.PutOp(o)
		b = append(b, framed(frame.Op, body)...)
	}
	return append(b, framed(frame.Commit, commitBody(x))...)
}

// commitBody is the body of the frame behind the operations of x.
func commitBody(x api.Batch) []byte {
	b := wire.Num(wire.Num(nil, x.Number), x.Stamp)
	return wire.Num(b, uint64(len(x.Ops)))
}

// checkBytes is the contents of a checkpoint of these batches, of which there is one at least.
func checkBytes(batches []api.Batch) []byte {
	var b []byte
	for _, x := range batches {
		b = append(b, batchBytes(x)...)
	}
	return append(b, checkEnd(batches[len(batches)-1].Number)...)
}

// checkEnd is the frame that ends a checkpoint of the batches up to n.
func checkEnd(n uint64) []byte { return framed(frame.Check, wire.Num(nil, n)) }

// framed is a frame of that kind, whose body is not too long.
func framed(kind int, body []byte) []byte {
	b, _ := frame.Put(frame.Frame{Kind: kind, Body: body})
	return b
}

// batchOf is the batch that g encodes, and whether it encodes a valid one. What can't be read is zero: then the batch isn't valid, or its Commit frame is another one.
func batchOf(g frame.Group) (api.Batch, bool) {
	r := wire.New(g.Commit)
	var x api.Batch
	x.Number, _ = r.Num(api.MaxBatch)
	x.Stamp, _ = r.Num(api.Forever)
	for _, body := range g.Ops {
		o, _ := codec.TakeOp(body)
		x.Ops = append(x.Ops, o)
	}
	return x, codec.MayBatch(x) && bytes.Equal(g.Commit, commitBody(x))
}
