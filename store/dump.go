package store

import (
	"bytes"

	"tumbler/api"
	"tumbler/archive"
	"tumbler/name"
	"tumbler/octets"
)

// magic is what a dump begins with.
const magic = "TST1"

// How many bytes the parts of a dump have.
const (
	headBytes = len(magic) + 4
	sizeBytes = 4
	sumBytes  = 4
)

// Dump writes all series.
func (s *Store) Dump() []byte {
	if !s.made() {
		return nil
	}
	b := octets.Append([]byte(magic), uint64(len(s.series)), 4)
	for _, n := range s.Names() {
		file := s.series[n].Bytes()
		b = append(b, byte(len(n)))
		b = append(b, n...)
		b = octets.Append(b, uint64(len(file)), sizeBytes)
		b = append(b, file...)
	}
	return octets.Append(b, uint64(octets.Sum(b)), sumBytes)
}

// Load reads them into a new store; with an error the place.
func Load(rules []api.Rule, limit int, b []byte) (*Store, int, api.Errno) {
	s, place, err := New(rules, limit)
	if err != api.OK {
		return nil, place, err
	}
	if len(b) < headBytes+sumBytes || !bytes.HasPrefix(b, []byte(magic)) {
		return nil, 0, api.ErrDump
	}
	end := len(b) - sumBytes
	if octets.Read(b[end:]) != uint64(octets.Sum(b[:end])) {
		return nil, end, api.ErrSum
	}
	count := octets.Read(b[len(magic):headBytes])
	if count > uint64(limit) {
		return nil, len(magic), api.ErrMany
	}
	r := &reader{b: b[headBytes:end:end]}
	for range count {
		begin := len(r.b)
		if !r.series(s) {
			return nil, end - begin, api.ErrDump
		}
	}
	if len(r.b) > 0 {
		return nil, end - len(r.b), api.ErrDump
	}
	return s, 0, api.OK
}

// reader goes through the series of a dump.
type reader struct {
	b    []byte // what is left
	last string // the name of the series ahead
}

// next takes the next n bytes off, if there are so many.
func (r *reader) next(n uint64) ([]byte, bool) {
	if n > uint64(len(r.b)) {
		return nil, false
	}
	b := r.b[:n:n]
	r.b = r.b[n:]
	return b, true
}

// part takes bytes off ahead of which their number stands, in so many bytes.
func (r *reader) part(size uint64) ([]byte, bool) {
	n, ok := r.next(size)
	if !ok {
		return nil, false
	}
	return r.next(octets.Read(n))
}

// series reads one into a store, and tells whether it is one.
func (r *reader) series(into *Store) bool {
	text, ok := r.part(1)
	if !ok {
		return false
	}
	file, ok := r.part(sizeBytes)
	if !ok {
		return false
	}
	n := string(text)
	f, _, err := archive.Open(file)
	if err != api.OK || !name.Valid(n) || n <= r.last {
		return false
	}
	into.series[n] = f
	r.last = n
	return true
}
