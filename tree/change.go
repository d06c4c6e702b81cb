package tree

import (
	"bytes"

	"smartcard/api"
	"smartcard/batch"
	"smartcard/filehead"
)

// Create creates a file in a directory, and returns its handle, the least free one.
func (t *Tree) Create(dir int, f api.File) (int, api.Errno) {
	if e := t.ready(); e != api.OK {
		return 0, e
	}
	if e := filehead.Check(f); e != api.OK { // also for the identifiers 3FFF and FFFF
		return 0, e
	}
	if f.ID == masterID {
		return 0, api.ErrArg
	}
	l, e := t.load()
	if e != api.OK {
		return 0, e
	}
	if e := l.accept(dir, f); e != api.OK {
		return 0, e
	}
	h := l.free()
	if e := t.write(h, file{dir, l.nextTurn(dir), f}); e != api.OK {
		return 0, e
	}
	return h, api.OK
}

// accept returns the error of a new file in a directory, with a header that is valid.
func (l files) accept(dir int, f api.File) api.Errno {
	switch {
	case !l.has(dir):
		return api.ErrNone
	case !l.isDir(dir):
		return api.ErrType
	case l.depth(dir) == api.MaxNest:
		return api.ErrRange
	case l.clash(dir, f):
		return api.ErrTwice
	case len(l) == api.MaxFiles:
		return api.ErrFull
	}
	return api.OK
}

// clash reports whether a new file in a directory would have an identifier or a name that exists already.
func (l files) clash(dir int, f api.File) bool {
	_, id := l.byID(dir, f.ID)
	_, short := l.byShort(dir, f.Short)
	_, name := l.first(func(_ int, other file) bool {
		return len(f.Name) > 0 && bytes.Equal(other.head.Name, f.Name)
	})
	return id || short || name
}

// free returns the least handle that no file has.
func (l files) free() int {
	h := master
	for l.has(h) {
		h++
	}
	return h
}

// nextTurn returns the turn of a new file in a directory.
func (l files) nextTurn(dir int) int {
	turn := 0
	for _, h := range l.children(dir) {
		turn = max(turn, l[h].turn)
	}
	return turn + 1
}

// Remove removes a file without children, and its content.
func (t *Tree) Remove(h int) api.Errno {
	l, e := t.load()
	switch {
	case e != api.OK:
		return e
	case !l.has(h):
		return api.ErrNone
	case h == master:
		return api.ErrState
	case len(l.children(h)) > 0:
		return api.ErrBusy
	}
	return batch.Do(t.v, func() api.Errno {
		if e := t.v.Delete(api.ItemContents + h); e != api.OK && e != api.ErrNone {
			return e
		}
		return t.v.Delete(api.ItemFiles + h)
	})
}

// SetState changes the life-cycle state of a file by an operation.
func (t *Tree) SetState(h, op int) api.Errno {
	l, e := t.load()
	switch {
	case e != api.OK:
		return e
	case !l.has(h):
		return api.ErrNone
	}
	f := l[h]
	state, e := filehead.Next(f.head.State, op)
	if e != api.OK {
		return e
	}
	f.head.State = state
	return t.write(h, f)
}
