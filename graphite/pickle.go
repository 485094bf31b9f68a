package graphite

import (
	"bytes"

	"tumbler/api"
	"tumbler/octets"
	"tumbler/wide"
)

// The operations, by the names that pickles' own tools give them.
const (
	opMark       = 0x28
	opEmptyTuple = 0x29
	opStop       = 0x2E
	opPop        = 0x30
	opPopMark    = 0x31
	opDup        = 0x32
	opDigits     = 0x49
	opInt        = 0x4A
	opByte       = 0x4B
	opTwoBytes   = 0x4D
	opLongText1  = 0x54
	opShortText1 = 0x55
	opText       = 0x58
	opEmptyList  = 0x5D
	opAppend     = 0x61
	opAppends    = 0x65
	opGet        = 0x68
	opLongGet    = 0x6A
	opList       = 0x6C
	opPut        = 0x71
	opLongPut    = 0x72
	opTuple      = 0x74
	opProto      = 0x80
	opTuple1     = 0x85
	opTuple2     = 0x86
	opTuple3     = 0x87
	opLong       = 0x8A
	opShortText  = 0x8C
	opMemoize    = 0x94
	opFrame      = 0x95
)

// fault is why a pickle is refused, and where.
type fault struct {
	err   api.Errno
	place int
}

// machine goes through a pickle.
type machine struct {
	b     []byte // with the length ahead, so that places are right
	op    int    // the place of the operation at hand
	at    int    // the place of what comes next
	stack []thing
	memo  map[uint64]thing
}

// unpickle is the list that a pickle, behind its length, leaves; or the fault.
func unpickle(b []byte) (left *list, f fault) {
	defer func() {
		if r := recover(); r != nil {
			given, is := r.(fault)
			if !is {
				given = fault{api.ErrPickle, len(b)}
			}
			left, f = nil, given
		}
	}()
	m := &machine{b: b, at: head, memo: map[uint64]thing{}}
	for m.at < len(b) {
		m.op = m.at
		m.at++
		if b[m.op] == opStop {
			return m.result(), fault{}
		}
		m.step(b[m.op])
	}
	m.op = len(b)
	m.giveUp(api.ErrPickle)
	return nil, fault{}
}

// giveUp ends the run with an error of the operation at hand.
func (m *machine) giveUp(err api.Errno) {
	panic(fault{err, m.op})
}

// need gives up, unless what an operation needs is there.
func (m *machine) need(is bool) {
	if !is {
		m.giveUp(api.ErrPickle)
	}
}

// result is the list that is left at the end.
func (m *machine) result() *list {
	m.need(len(m.stack) == 1 && m.stack[0].kind == isList && m.at == len(m.b))
	return m.stack[0].list
}

// next are the next n bytes.
func (m *machine) next(n uint64) []byte {
	m.need(n <= uint64(len(m.b)-m.at))
	from := m.at
	m.at += int(n)
	return m.b[from:m.at:m.at]
}

// number is the number of the next n bytes, the lowest first.
func (m *machine) number(n uint64) uint64 {
	return octets.ReadLow(m.next(n))
}

// signed is likewise one with a sign.
func (m *machine) signed(n uint64) int64 {
	if n == 0 {
		return 0
	}
	above := 64 - 8*n
	return int64(m.number(n)<<above) >> above
}

// digits is the number whose digits stand up to the next line end.
func (m *machine) digits() int64 {
	n := bytes.IndexByte(m.b[m.at:], '\n')
	m.need(n >= 0)
	w, err := wide.Parse(string(m.next(uint64(n))))
	m.at++
	v, ok := wide.Small(w)
	m.need(err == api.OK && ok)
	return v
}

// step does an operation; the end is none of them.
func (m *machine) step(op byte) {
	switch op {
	case opProto:
		m.need(m.op == head && m.next(1)[0] <= 5)
	case opFrame:
		m.next(8)
	case opMark, opEmptyTuple, opEmptyList, opInt, opByte, opTwoBytes, opLong, opDigits, opText, opLongText1, opShortText, opShortText1:
		m.push(m.fresh(op))
	case opPop, opPopMark, opDup, opAppend, opAppends, opList, opTuple, opTuple1, opTuple2, opTuple3:
		m.rearrange(op)
	case opPut:
		m.memo[m.number(1)] = m.top()
	case opLongPut:
		m.memo[m.number(4)] = m.top()
	case opMemoize:
		m.memo[uint64(len(m.memo))] = m.top()
	case opGet:
		m.recall(m.number(1))
	case opLongGet:
		m.recall(m.number(4))
	default:
		m.giveUp(api.ErrOp)
	}
}

// fresh is what an operation makes of the bytes behind it.
func (m *machine) fresh(op byte) thing {
	size := uint64(1)
	switch op {
	case opMark:
		return thing{kind: isMark}
	case opEmptyTuple:
		return thing{kind: isTuple}
	case opEmptyList:
		return thing{kind: isList, list: &list{}}
	case opInt:
		return whole(m.signed(4))
	case opLong:
		k := m.number(1)
		m.need(k <= 8)
		return whole(m.signed(k))
	case opDigits:
		return whole(m.digits())
	case opTwoBytes:
		size++
		fallthrough
	case opByte:
		return whole(int64(m.number(size)))
	case opText, opLongText1:
		size = 4
		fallthrough
	default:
		return thing{kind: isText, text: string(m.next(m.number(size)))}
	}
}

// recall puts a thing of the memo on the stack.
func (m *machine) recall(number uint64) {
	x, is := m.memo[number]
	m.need(is)
	m.push(x)
}
