package crew

import "tumbler/api"

// receive waits for the next result of any shard: the shard, the result, and false, if the shard's channel is closed.
func (w *crew) receive() (i int, r api.Result, ok bool) {
	select {
	case r, ok = <-w.outs[0]:
		i = 0
	case r, ok = <-w.outs[1]:
		i = 1
	case r, ok = <-w.outs[2]:
		i = 2
	case r, ok = <-w.outs[3]:
		i = 3
	case r, ok = <-w.outs[4]:
		i = 4
	case r, ok = <-w.outs[5]:
		i = 5
	case r, ok = <-w.outs[6]:
		i = 6
	case r, ok = <-w.outs[7]:
		i = 7
	case r, ok = <-w.outs[8]:
		i = 8
	case r, ok = <-w.outs[9]:
		i = 9
	case r, ok = <-w.outs[10]:
		i = 10
	case r, ok = <-w.outs[11]:
		i = 11
	case r, ok = <-w.outs[12]:
		i = 12
	case r, ok = <-w.outs[13]:
		i = 13
	case r, ok = <-w.outs[14]:
		i = 14
	case r, ok = <-w.outs[15]:
		i = 15
	}
	return i, r, ok
}
