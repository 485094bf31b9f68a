package graphite

// The kinds of what stands on the stack.
const (
	isMark = iota + 1
	isNumber
	isText
	isTuple
	isList
)

// thing is one of them; fields of other kinds are empty.
type thing struct {
	kind   int
	number int64
	text   string
	tuple  []thing
	list   *list
}

// list is one and the same at all places at which it stands.
type list struct{ things []thing }

// whole is a whole number.
func whole(n int64) thing {
	return thing{kind: isNumber, number: n}
}

func (m *machine) push(x thing) {
	m.stack = append(m.stack, x)
}

// top is the topmost thing.
func (m *machine) top() thing {
	m.need(len(m.stack) > 0)
	x := m.stack[len(m.stack)-1]
	m.need(x.kind != isMark)
	return x
}

// pop takes the topmost thing off.
func (m *machine) pop() thing {
	x := m.top()
	m.stack = m.stack[:len(m.stack)-1]
	return x
}

// popMark takes what stands above the topmost mark off, and the mark.
func (m *machine) popMark() []thing {
	for i := len(m.stack) - 1; i >= 0; i-- {
		if m.stack[i].kind == isMark {
			l := append([]thing(nil), m.stack[i+1:]...)
			m.stack = m.stack[:i]
			return l
		}
	}
	m.need(false)
	return nil
}

// popTuple takes n things off: the lowest first.
func (m *machine) popTuple(n int) []thing {
	l := make([]thing, n)
	for i := range n {
		l[n-1-i] = m.pop()
	}
	return l
}

// extend puts things at the end of the list on top.
func (m *machine) extend(l ...thing) {
	x := m.top()
	m.need(x.kind == isList)
	x.list.things = append(x.list.things, l...)
}

// rearrange does an operation that needs nothing but the stack.
func (m *machine) rearrange(op byte) {
	n := 0
	switch op {
	case opPop:
		m.need(len(m.stack) > 0)
		m.stack = m.stack[:len(m.stack)-1]
	case opPopMark:
		m.popMark()
	case opDup:
		m.push(m.top())
	case opAppend:
		m.extend(m.pop())
	case opAppends:
		m.extend(m.popMark()...)
	case opList:
		m.push(thing{kind: isList, list: &list{m.popMark()}})
	case opTuple:
		m.push(thing{kind: isTuple, tuple: m.popMark()})
	case opTuple3:
		n++
		fallthrough
	case opTuple2:
		n++
		fallthrough
	case opTuple1:
		n++
		m.push(thing{kind: isTuple, tuple: m.popTuple(n)})
	}
}
