package archive

import (
	"bytes"

	"tumbler/api"
	"tumbler/octets"
)

// magic is what a file begins with.
const magic = "RRA1"

// How many bytes the parts of a file have.
const (
	headBytes  = len(magic) + 1 + 1 + 4
	specBytes  = 8 + 4
	countBytes = 4
	pointBytes = 8 + 16
	sumBytes   = 4
)

// Bytes is the file.
func (f *File) Bytes() []byte {
	if !f.made() {
		return nil
	}
	b := append([]byte(magic), byte(f.method), byte(len(f.specs)))
	b = octets.Append(b, uint64(f.xff), 4)
	for _, s := range f.specs {
		b = octets.Append(b, uint64(s.Step), 8)
		b = octets.Append(b, uint64(s.Points), 4)
	}
	for _, r := range f.rings {
		l := r.sorted()
		b = octets.Append(b, uint64(len(l)), countBytes)
		for _, s := range l {
			b = octets.Append(b, uint64(s.interval), 8)
			b = octets.Append(b, uint64(s.value.Hi), 8)
			b = octets.Append(b, s.value.Lo, 8)
		}
	}
	return octets.Append(b, uint64(octets.Sum(b)), sumBytes)
}

// Open reads one; with an error the place.
func Open(b []byte) (*File, int, api.Errno) {
	if len(b) < headBytes+sumBytes || !bytes.HasPrefix(b, []byte(magic)) {
		return nil, 0, api.ErrFile
	}
	end := len(b) - sumBytes
	if octets.Read(b[end:]) != uint64(octets.Sum(b[:end])) {
		return nil, end, api.ErrSum
	}
	r := &reader{b: b[:end:end], at: headBytes}
	f, ok := r.file()
	if !ok {
		return nil, r.at, api.ErrFile
	}
	return f, 0, api.OK
}

// reader goes through a file's bytes ahead of the sum; at a fault it stays where that begins.
type reader struct {
	b  []byte
	at int
}

// has tells whether so many bytes are left.
func (r *reader) has(n int) bool { return len(r.b)-r.at >= n }

// number is the one of the n bytes that stand so far behind.
func (r *reader) number(behind, n int) uint64 {
	from := r.at + behind
	return octets.Read(r.b[from : from+n])
}

// file reads all, and tells whether there was no fault.
func (r *reader) file() (*File, bool) {
	m := api.Method(r.b[4])
	if rollOf(m) == nil {
		r.at = 4
		return nil, false
	}
	count := int(r.b[5])
	if count < 1 || count > api.MaxSpecs {
		r.at = 5
		return nil, false
	}
	xff := octets.Read(r.b[6:headBytes])
	if xff > api.MaxXff {
		r.at = 6
		return nil, false
	}
	specs, ok := r.specs(count)
	if !ok {
		return nil, false
	}
	f, err := Create(specs, m, int64(xff))
	if err != api.OK {
		return nil, false
	}
	for _, ring := range f.rings {
		if !r.points(ring) {
			return nil, false
		}
	}
	return f, !r.has(1)
}

// specs reads so many archives.
func (r *reader) specs(count int) ([]api.Spec, bool) {
	var l []api.Spec
	for range count {
		if !r.has(specBytes) {
			return nil, false
		}
		l = append(l, api.Spec{Step: int64(r.number(0, 8)), Points: int(r.number(8, 4))})
		if _, err := Check(l); err != api.OK {
			return nil, false
		}
		r.at += specBytes
	}
	return l, true
}

// points reads an archive's points into its ring.
func (r *reader) points(to *ring[api.Wide]) bool {
	if !r.has(countBytes) {
		return false
	}
	count := int64(r.number(0, countBytes))
	if count > to.points {
		return false
	}
	r.at += countBytes
	ahead := int64(-1)
	for range count {
		if !r.has(pointBytes) {
			return false
		}
		i := int64(r.number(0, 8))
		v := api.Wide{Hi: int64(r.number(8, 8)), Lo: r.number(16, 8)}
		if i <= ahead || !second(i) || to.interval(i) != i || to.taken(i) || !fits(v, to.step) {
			return false
		}
		to.put(i, v)
		ahead = i
		r.at += pointBytes
	}
	return true
}
