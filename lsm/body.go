package lsm

import (
	"bytes"
	"math/bits"

	"sawyer/api"
	"sawyer/code"
	"sawyer/skip"
)

const mostNum = 9 // bytes of the greatest number that code lays

// entries are changes as entries of one Seq.
func entries(l []Change, seq int) []api.Entry {
	var out []api.Entry
	for _, c := range l {
		out = append(out, api.Entry{Key: c.Key, Seq: seq, Gone: c.Gone, Value: c.Value})
	}
	return out
}

// isBatch: may entries of one Seq be a batch's? A list of their own tells it, which refuses what may not be, and a key's second one.
func isBatch(l []api.Entry) bool {
	if len(l) == 0 || len(l) > api.MaxBatch {
		return false
	}
	alone := skip.New()
	for _, x := range l {
		if alone.Put(x, height(x)) != api.OK {
			return false
		}
	}
	return true
}

// height is how high an entry stands in a list: half of all at 1, of the others half at 2, and so on, whatever their order is.
func height(x api.Entry) int {
	sum := code.Crc(code.PutNum(x.Key, x.Seq))
	return 1 + bits.TrailingZeros32(sum|1<<(api.MaxHeight-1))
}

// body is a batch's bytes.
func body(batch []api.Entry) []byte {
	b := code.PutNum(code.PutNum(nil, batch[0].Seq), len(batch))
	for _, x := range batch {
		b = append(b, changeBytes(x)...)
	}
	return b
}

// changeBytes is a change's bytes, laid by themselves: each put copies what is ahead of it, which is not to be all changes.
func changeBytes(x api.Entry) []byte {
	gone := 0
	if x.Gone {
		gone = 1
	}
	b := code.PutNum(code.PutText(nil, string(x.Key)), gone)
	return code.PutText(b, string(x.Value))
}

// readBody is the batch whose body these bytes are. What is read tells no fault: bytes are a batch's just if it is laid as they are.
func readBody(b []byte) ([]api.Entry, api.Errno) {
	r := &reader{rest: b}
	seq, count := r.num(), r.num()
	var batch []api.Entry
	for len(batch) < min(count, api.MaxBatch) && len(r.rest) > 0 { // wrong bytes may tell of more changes than there are
		batch = append(batch, api.Entry{Key: r.text(api.MaxKey), Seq: seq, Gone: r.num() == 1, Value: r.text(api.MaxValue)})
	}
	if !isBatch(batch) || !bytes.Equal(body(batch), b) {
		return nil, api.ErrCorrupt
	}
	return batch, api.OK
}

// A reader takes what stands next in bytes, and from the first fault on only zero values. It hands no more bytes to a take than the thing can have, since each take copies what is behind it.
type reader struct{ rest []byte }

func (r *reader) num() int {
	ahead := r.ahead(mostNum)
	n, behind, f := code.TakeNum(ahead)
	r.goOn(len(ahead)-len(behind), f)
	return n
}

func (r *reader) text(most int) []byte {
	ahead := r.ahead(mostNum + most)
	s, behind, f := code.TakeText(ahead, most)
	r.goOn(len(ahead)-len(behind), f)
	return []byte(s)
}

// ahead is so many of the bytes, as far as there are.
func (r *reader) ahead(most int) []byte { return r.rest[:min(most, len(r.rest))] }

// goOn leaves behind what was taken; all, if that failed.
func (r *reader) goOn(size int, f api.Errno) {
	if f != api.OK {
		size = len(r.rest)
	}
	r.rest = r.rest[size:]
}
