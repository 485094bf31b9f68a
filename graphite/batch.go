package graphite

import (
	"tumbler/api"
	"tumbler/micro"
	"tumbler/octets"
	"tumbler/wide"
)

// head is how many bytes a batch's length has.
const head = 4

// Batch writes records as one pickled batch with its length ahead.
func Batch(l []api.Record) ([]byte, api.Errno) {
	if len(l) > api.MaxRecords {
		return nil, api.ErrMany
	}
	if err := check(l); err != api.OK {
		return nil, err
	}
	p := []byte{opProto, 2, opEmptyList}
	if len(l) > 0 {
		p = append(p, opMark)
		for _, r := range l {
			p = putText(p, r.Path)
			p = putTime(p, r.Time)
			p = putText(p, micro.Show(r.Value))
			p = append(p, opTuple2, opTuple2)
		}
		p = append(p, opAppends)
	}
	p = append(p, opStop)
	if len(p) > api.MaxBatch {
		return nil, api.ErrLong
	}
	return append(octets.Append(nil, uint64(len(p)), head), p...), api.OK
}

// putText puts a text behind a pickle.
func putText(p []byte, s string) []byte {
	p = octets.AppendLow(append(p, opText), uint64(len(s)), 4)
	return append(p, s...)
}

// putTime puts a second behind a pickle, in as few bytes as leave its highest bit 0, which would be a sign.
func putTime(p []byte, t int64) []byte {
	if t < 1<<31 {
		return octets.AppendLow(append(p, opInt), uint64(t), 4)
	}
	k := 6
	if t < 1<<39 {
		k = 5
	}
	return octets.AppendLow(append(p, opLong, byte(k)), uint64(t), k)
}

// Unbatch reads the batch at the beginning: its records, and how many bytes it has; with an error the place.
func Unbatch(b []byte) ([]api.Record, int, api.Errno) {
	if len(b) < head {
		return nil, len(b), api.ErrShort
	}
	n := octets.Read(b[:head])
	if n > api.MaxBatch {
		return nil, 0, api.ErrLong
	}
	end := head + int(n)
	if len(b) < end {
		return nil, len(b), api.ErrShort
	}
	left, fault := unpickle(b[:end:end])
	if fault.err != api.OK {
		return nil, fault.place, fault.err
	}
	if len(left.things) > api.MaxRecords {
		return nil, 0, api.ErrMany
	}
	var l []api.Record
	for i, x := range left.things {
		r, ok := said(x)
		if !ok {
			return nil, i, api.ErrRecord
		}
		l = append(l, r)
	}
	return l, end, api.OK
}

// said is the record that a thing says, if it is a right one.
func said(x thing) (api.Record, bool) {
	outer, ok := pair(x)
	if !ok || outer[0].kind != isText {
		return api.Record{}, false
	}
	inner, ok := pair(outer[1])
	if !ok || inner[0].kind != isNumber {
		return api.Record{}, false
	}
	v, ok := value(inner[1])
	r := api.Record{Path: outer[0].text, Value: v, Time: inner[0].number}
	return r, ok && right(r)
}

// pair is a tuple of two.
func pair(x thing) ([2]thing, bool) {
	if x.kind != isTuple || len(x.tuple) != 2 {
		return [2]thing{}, false
	}
	return [2]thing{x.tuple[0], x.tuple[1]}, true
}

// value is the one that a thing says.
func value(x thing) (api.Wide, bool) {
	switch x.kind {
	case isNumber:
		v, err := wide.Mul(wide.Of(x.number), wide.Of(api.Unit))
		return v, err == api.OK
	case isText:
		v, err := micro.Read(x.text)
		return v, err == api.OK && micro.Show(v) == x.text
	}
	return api.Wide{}, false
}
