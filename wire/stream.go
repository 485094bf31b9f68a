package wire

import "tumbler/api"

// Stream cuts bytes that come in pieces into lines.
type Stream struct {
	self  *Stream // itself, if NewStream made it
	limit int
	// What has come behind the last line end: its first bytes, one more than a line may have. A longer one is lost
	// whatever else it has, so no more is kept.
	tail []byte
	more bool // more has come than the tail keeps
	lost int
}

// NewStream makes one for lines of at most so many bytes.
func NewStream(limit int) (*Stream, api.Errno) {
	if limit < 1 || limit > api.MaxLine {
		return nil, api.ErrSize
	}
	s := &Stream{limit: limit}
	s.self = s
	return s, api.OK
}

func (s *Stream) made() bool { return s != nil && s.self == s }

// Feed takes a piece: the lines that are whole now.
func (s *Stream) Feed(b []byte) []string {
	if !s.made() {
		return nil
	}
	var lines []string
	for {
		n := lineLength(b)
		s.keep(b[:n:n])
		if n == len(b) {
			return lines
		}
		b = b[n+1:]
		if line, ok := s.end(); ok {
			lines = append(lines, line)
		}
	}
}

// keep puts bytes of a line behind what has come of it.
func (s *Stream) keep(b []byte) {
	if room := s.limit + 1 - len(s.tail); len(b) > room {
		b = b[:room:room]
		s.more = true
	}
	s.tail = append(s.tail, b...)
}

// end ends the line that has come: the line, and whether it is to be told.
func (s *Stream) end() (string, bool) {
	line := bare(s.tail)
	long := s.more || len(line) > s.limit
	text := string(line)
	s.tail, s.more = s.tail[:0], false
	if long {
		s.lost++
		return "", false
	}
	return text, text != ""
}

// End is what stands behind the last line's end.
func (s *Stream) End() string {
	if !s.made() {
		return ""
	}
	return string(s.tail)
}

// Lost is how many lines were too long.
func (s *Stream) Lost() int {
	if !s.made() {
		return 0
	}
	return s.lost
}
