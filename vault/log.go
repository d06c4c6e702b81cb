package vault

import (
	"smartcard/api"
	"smartcard/journal"
)

const (
	itemWeight = 16 // of an item, in addition to its data

	// The journal begins with the head: where the log begins, how many bytes it has, and how often the head was written, followed by the complement of these numbers, by which the head of a vault is recognized. The head of a vault that was never changed is zeros.
	headBytes   = 2 * stateBytes
	stateBytes  = 3 * numberBytes
	numberBytes = 3

	// An entry of the log is the number of an item, the number of its bytes, or goneLength, and its data.
	entryBytes = 4
	goneLength = 0xffff
)

// place is where the latest entry of an item is in the ring, and how many bytes of data it has.
type place struct {
	at, n int
}

// log is a log of entries in a ring, which is all bytes of the journal behind the head. Entries are written where the log does not reach yet; that they are part of it is then written into the head, at once.
//
// When the log has to become shorter, entries at its tail that still count are copied to its end. There is always room for that, until all entries of the log count: if the ring has room for the largest entry, that is plain. Otherwise entries are added only after all entries of the log counted. As the items weigh at most half of the journal before and after, and an entry takes 12 bytes less than its item weighs, there is room for the added ones then, and also for copies of all those before them that still count. (This is why entries of items that are gone come before the others that are added with them: none of the added ones with data has to be copied before all entries count.)
type log struct {
	j          *journal.Journal
	head       [headBytes]byte // with which the fields below were found
	tail, used int             // where the log begins in the ring, and how many bytes it has
	places     map[int]place   // of the persistent items
	data       int             // bytes of all persistent items
}

// size returns the number of bytes of the ring.
func (l *log) size() int { return max(0, l.j.Size()-headBytes) }

// free returns the number of bytes of the ring to which the log does not reach.
func (l *log) free() int { return l.size() - l.used }

// end returns where the log ends in the ring.
func (l *log) end() int { return l.step(l.tail, l.used) }

// step returns the place in the ring that is n bytes after another one.
func (l *log) step(at, n int) int {
	if at += n; at >= l.size() {
		at -= l.size()
	}
	return at
}

// room returns the greatest weight of the persistent items.
func (l *log) room() int { return l.j.Size() / 2 }

// weight returns the weight of the persistent items.
func (l *log) weight() int { return l.data + itemWeight*len(l.places) }

// stale returns the number of bytes of entries that do not count any more.
func (l *log) stale() int { return l.used - l.data - entryBytes*len(l.places) }

// has reports whether there is a persistent item with this number.
func (l *log) has(id int) bool {
	_, ok := l.places[id]
	return ok
}

// weightOf returns the weight of a persistent item, 0 if there is none with this number.
func (l *log) weightOf(id int) int {
	p, ok := l.places[id]
	if !ok {
		return 0
	}
	return itemWeight + p.n
}

// get returns the data of a persistent item.
func (l *log) get(id int) ([]byte, bool) {
	p, ok := l.places[id]
	if !ok {
		return nil, false
	}
	b, e := l.read(l.step(p.at, entryBytes), p.n)
	return b, e == api.OK
}

// entry adds an entry to others.
func entry(b []byte, id int, c change) []byte {
	n := len(c.data)
	if c.gone {
		n = goneLength
	}
	b = append(b, byte(id>>8), byte(id), byte(n>>8), byte(n))
	return append(b, c.data...)
}

// parse returns the item of an entry, the number of bytes of its data, and whether the item is gone.
func parse(b []byte) (id, n int, gone bool) {
	id, n = int(b[0])<<8|int(b[1]), int(b[2])<<8|int(b[3])
	if n == goneLength {
		return id, 0, true
	}
	return id, n, false
}

// take notes entries that are at a place in the ring; it reports whether they are entries.
func (l *log) take(at int, b []byte) bool {
	for len(b) > 0 {
		if len(b) < entryBytes {
			return false
		}
		id, n, gone := parse(b)
		if !validID(id) || n > api.MaxItem || len(b) < entryBytes+n {
			return false
		}
		l.data -= l.places[id].n
		delete(l.places, id)
		if !gone {
			l.data += n
			l.places[id] = place{at, n}
		}
		at, b = l.step(at, entryBytes+n), b[entryBytes+n:]
	}
	return true
}

// refresh finds the persistent items, if the head is not the one that is known: it may have been written through another vault on this journal. With an error, what is known remains.
func (l *log) refresh() api.Errno {
	fresh := log{j: l.j, places: map[int]place{}}
	b, e := l.j.Read(0, min(headBytes, l.j.Size()))
	if e != api.OK {
		return e
	}
	copy(fresh.head[:], b)
	if fresh.head == l.head {
		return api.OK
	}
	if e := fresh.load(); e != api.OK {
		return e
	}
	*l = fresh
	return api.OK
}

// load finds the persistent items, as the head tells where they are.
func (l *log) load() api.Errno {
	if l.head == [headBytes]byte{} {
		return api.OK
	}
	tail, used := number(l.head[:]), number(l.head[numberBytes:])
	if l.head != state(tail, used, l.count()) || tail >= l.size() || used > l.size() {
		return api.ErrCorrupt
	}
	l.tail, l.used = tail, used
	b, e := l.read(tail, used)
	if e != api.OK {
		return e
	}
	if !l.take(tail, b) || l.weight() > l.room() {
		return api.ErrCorrupt
	}
	return api.OK
}

// count returns how often the head was written.
func (l *log) count() int { return number(l.head[2*numberBytes:]) }

// number returns a number of the head.
func number(b []byte) int { return int(b[0])<<16 | int(b[1])<<8 | int(b[2]) }

// state returns the head with three numbers.
func state(numbers ...int) (head [headBytes]byte) {
	for i, n := range numbers {
		copy(head[numberBytes*i:], []byte{byte(n >> 16), byte(n >> 8), byte(n)})
	}
	for i, x := range head[:stateBytes] {
		head[stateBytes+i] = ^x
	}
	return head
}

// read returns n bytes of the ring.
func (l *log) read(at, n int) ([]byte, api.Errno) {
	first := min(n, l.size()-at)
	b, e := l.j.Read(headBytes+at, first)
	if e != api.OK {
		return nil, e
	}
	rest, e := l.j.Read(headBytes, n-first)
	if e != api.OK {
		return nil, e
	}
	return append(b, rest...), api.OK
}

// write replaces bytes of the ring, which do not belong to the log, page by page: what happens at once is that the head changes.
func (l *log) write(at int, b []byte) api.Errno {
	for len(b) > 0 {
		off := headBytes + at
		n := min(len(b), api.PageBytes-off%api.PageBytes)
		if e := l.j.Apply([]api.Change{{Off: off, Data: b[:n:n]}}); e != api.OK {
			return e
		}
		at, b = l.step(at, n), b[n:]
	}
	return api.OK
}

// add adds entries to the log, all of them or none.
func (l *log) add(b []byte) api.Errno {
	if len(b) == 0 {
		return api.OK
	}
	if e := l.refresh(); e != api.OK { // nothing is written by what may be out of date
		return e
	}
	if e := l.clean(len(b) + max(l.largest(), len(b))); e != api.OK {
		return e
	}
	return l.replace(0, b)
}

// replace replaces the first entries of the log, which have n bytes, by others at its end.
func (l *log) replace(n int, b []byte) api.Errno {
	end, tail, used := l.end(), l.step(l.tail, n), l.used-n+len(b)
	if e := l.write(end, b); e != api.OK {
		return e
	}
	head := state(tail, used, l.count()+1)
	if e := l.j.Apply([]api.Change{{Off: 0, Data: head[:]}}); e != api.OK {
		return e
	}
	l.head, l.tail, l.used = head, tail, used
	l.take(end, b)
	return api.OK
}

// largest returns the number of bytes of the largest entry that counts.
func (l *log) largest() int {
	n := 0
	for _, p := range l.places {
		n = max(n, entryBytes+p.n)
	}
	return n
}

// clean shortens the log, until a number of bytes of the ring is free, or all of the entries of the log count.
func (l *log) clean(want int) api.Errno {
	for l.free() < want && l.stale() > 0 {
		n, kept, e := l.sweep(min(want-l.free(), l.stale()))
		if e != api.OK {
			return e
		}
		if n == 0 { // no vault has left the log like this
			return api.ErrCorrupt
		}
		if e := l.replace(n, kept); e != api.OK {
			return e
		}
	}
	return api.OK
}

// sweep returns the number of bytes of the first entries of the log, and those of them that count: so many entries that a number of bytes becomes free without those that count, or as many as can be copied.
func (l *log) sweep(want int) (n int, kept []byte, e api.Errno) {
	for n-len(kept) < want {
		at := l.step(l.tail, n)
		head, e := l.read(at, entryBytes)
		if e != api.OK {
			return 0, nil, e
		}
		id, size, gone := parse(head)
		size += entryBytes
		if !gone && l.places[id].at == at && l.has(id) {
			if len(kept)+size > l.free() {
				break
			}
			b, e := l.read(at, size)
			if e != api.OK {
				return 0, nil, e
			}
			kept = append(kept, b...)
		}
		n += size
	}
	return n, kept, api.OK
}
