package journal

import (
	"maps"
	"slices"

	"smartcard/api"
)

const (
	changeWeight = 8 // of a change, in addition to its bytes

	countBytes = 2 // of the log: the number of bytes that follow, 0 if the log is empty
	offBytes   = 4 // of a change in the log, before its bytes
	lenBytes   = 2
)

// Apply makes changes, in order, all of them or none.
func (j *Journal) Apply(l []api.Change) (e api.Errno) {
	if e := j.check(l); e != api.OK {
		return e
	}
	pages, e := j.changed(l)
	if e != api.OK {
		return e
	}
	if len(pages) < 2 { // a page is written as a whole, also without the log
		return j.store(pages)
	}
	defer func() {
		if e == api.OK {
			e = j.complete(pages)
		}
	}()
	return j.log(encode(l))
}

// check returns the errors of Apply, but those of the pages.
func (j *Journal) check(l []api.Change) api.Errno {
	if e := j.access(); e != api.OK {
		return e
	}
	weight := 0
	for _, c := range l {
		if !j.within(c.Off, len(c.Data)) {
			return api.ErrRange
		}
		weight += len(c.Data) + changeWeight
	}
	if weight > api.JournalBytes {
		return api.ErrBuffer
	}
	return api.OK
}

// changed returns the pages that changes concern, as they leave them. All of these are read before anything is written, so that one that cannot be read does not stop the changes halfway.
func (j *Journal) changed(l []api.Change) (map[int][]byte, api.Errno) {
	pages := map[int][]byte{}
	for _, c := range l {
		rest := c.Data
		for x := range places(c.Off, len(c.Data)) {
			if pages[x.page] == nil {
				b, e := j.p.Read(x.page)
				if e != api.OK {
					return nil, e
				}
				pages[x.page] = b
			}
			copy(pages[x.page][x.at:], rest[:x.n:x.n])
			rest = rest[x.n:]
		}
	}
	return pages, api.OK
}

// store writes pages.
func (j *Journal) store(pages map[int][]byte) api.Errno {
	for _, i := range slices.Sorted(maps.Keys(pages)) {
		if e := j.p.Write(i, pages[i]); e != api.OK {
			return e
		}
	}
	return api.OK
}

// complete stores the pages that the changes in the log concern, and empties the log.
func (j *Journal) complete(pages map[int][]byte) api.Errno {
	if e := j.store(pages); e != api.OK {
		return e
	}
	return j.log(make([]byte, countBytes))
}

// resume completes the changes that are in the log.
func (j *Journal) resume() api.Errno {
	b, e := j.logged()
	if e != api.OK || len(b) == 0 {
		return e
	}
	l, ok := decode(b)
	if !ok || j.check(l) != api.OK {
		return api.ErrCorrupt
	}
	pages, e := j.changed(l)
	if e != api.OK {
		return e
	}
	return j.complete(pages)
}

// log writes the log, and its first page after all others.
func (j *Journal) log(b []byte) api.Errno {
	for i := (len(b) - 1) / api.PageBytes; i >= 0; i-- {
		whole := make([]byte, api.PageBytes)
		copy(whole, b[i*api.PageBytes:])
		if e := j.p.Write(i, whole); e != api.OK {
			return e
		}
	}
	return api.OK
}

// logged returns the changes that are in the log, as encode has written them.
func (j *Journal) logged() ([]byte, api.Errno) {
	b, e := j.p.Read(0)
	if e != api.OK {
		return nil, e
	}
	end := countBytes + int(b[0])<<8 + int(b[1])
	if end > min(ownPages, j.p.Count())*api.PageBytes {
		return nil, api.ErrCorrupt
	}
	for i := 1; len(b) < end; i++ {
		next, e := j.p.Read(i)
		if e != api.OK {
			return nil, e
		}
		b = append(b, next...)
	}
	return b[countBytes:end:end], api.OK
}

// encode returns changes as the log has them. They fit into it if their weight is small enough.
func encode(l []api.Change) []byte {
	b := make([]byte, countBytes)
	for _, c := range l {
		n := len(c.Data)
		b = append(b, byte(c.Off>>24), byte(c.Off>>16), byte(c.Off>>8), byte(c.Off), byte(n>>8), byte(n))
		b = append(b, c.Data...)
	}
	n := len(b) - countBytes
	b[0], b[1] = byte(n>>8), byte(n)
	return b
}

// decode returns changes from what encode has written, after the number of bytes.
func decode(b []byte) ([]api.Change, bool) {
	var l []api.Change
	for len(b) > 0 {
		if len(b) < offBytes+lenBytes {
			return nil, false
		}
		off := int(b[0])<<24 | int(b[1])<<16 | int(b[2])<<8 | int(b[3])
		n := int(b[4])<<8 | int(b[5])
		b = b[offBytes+lenBytes:]
		if len(b) < n {
			return nil, false
		}
		l = append(l, api.Change{Off: off, Data: b[:n:n]})
		b = b[n:]
	}
	return l, true
}
