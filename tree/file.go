package tree

import (
	"cmp"
	"slices"

	"smartcard/api"
	"smartcard/filehead"
)

const (
	master   = 1      // the handle of the master file
	masterID = 0x3f00 // its identifier

	// The item of a file is the handle of its directory, its turn, and its file control parameters.
	dirBytes  = 1
	turnBytes = 4
	ownBytes  = dirBytes + turnBytes
)

// file is a file: the directory that it is in, 0 for the master file; its turn, which is greater than those of all files that were in the directory when it was created; and its header.
type file struct {
	dir, turn int
	head      api.File
}

// newMaster returns a new master file.
func newMaster() file {
	anyone := api.Rule{Ops: api.OpCreate, Cond: api.Cond{Op: api.CondAlways}}
	return file{head: api.File{ID: masterID, Kind: api.FileDF, State: api.FileActive, Rules: []api.Rule{anyone}}}
}

// encode returns the item of a file.
func (f file) encode() ([]byte, api.Errno) {
	head, e := filehead.Encode(f.head)
	if e != api.OK {
		return nil, e
	}
	own := []byte{byte(f.dir), byte(f.turn >> 24), byte(f.turn >> 16), byte(f.turn >> 8), byte(f.turn)}
	return append(own, head...), api.OK
}

// decode returns the file with an item; false if there is none.
func decode(b []byte) (file, bool) {
	if len(b) < ownBytes {
		return file{}, false
	}
	head, e := filehead.Decode(b[ownBytes:])
	if e != api.OK {
		return file{}, false
	}
	turn := int(b[1])<<24 | int(b[2])<<16 | int(b[3])<<8 | int(b[4])
	return file{dir: int(b[0]), turn: turn, head: head}, true
}

// file reads a file; false if there is none, or if it cannot be read.
func (t *Tree) file(h int) (file, bool) {
	if t.ready() != api.OK || h < master || h > api.MaxFiles {
		return file{}, false
	}
	b, ok := t.v.Get(api.ItemFiles + h)
	if !ok {
		return file{}, false
	}
	return decode(b)
}

// read reads all files.
func (t *Tree) read() (files, api.Errno) {
	l := files{}
	for _, id := range t.v.IDs() {
		if id < api.ItemFiles || id >= api.ItemContents {
			continue
		}
		f, ok := t.file(id - api.ItemFiles)
		if !ok {
			return nil, api.ErrCorrupt
		}
		l[id-api.ItemFiles] = f
	}
	return l, api.OK
}

// load reads all files, and makes sure that they are a tree.
func (t *Tree) load() (files, api.Errno) {
	if e := t.ready(); e != api.OK {
		return nil, e
	}
	l, e := t.read()
	switch {
	case e != api.OK:
		return nil, e
	case !l.sound():
		return nil, api.ErrCorrupt
	}
	return l, api.OK
}

// write writes a file.
func (t *Tree) write(h int, f file) api.Errno {
	b, e := f.encode()
	if e != api.OK {
		return e
	}
	return t.v.Put(api.ItemFiles+h, b)
}

// files is files by their handles.
type files map[int]file

func (l files) has(h int) bool {
	_, ok := l[h]
	return ok
}

func (l files) isDir(h int) bool { return l[h].head.Kind == api.FileDF }

// depth returns the depth of a file; a number greater than MaxNest if the way up does not lead to the master file.
func (l files) depth(h int) int {
	n := 1
	for h != master && n <= api.MaxNest {
		h = l[h].dir
		n++
	}
	return n
}

// sound reports whether all files can be reached from the master file.
func (l files) sound() bool {
	for h, f := range l {
		switch {
		case h == master && (f.dir != 0 || !l.isDir(master)):
			return false
		case h != master && (!l.isDir(f.dir) || l.depth(h) > api.MaxNest):
			return false
		}
	}
	return true
}

// children returns the files in a directory, in the order of their turns.
func (l files) children(dir int) []int {
	if !l.isDir(dir) {
		return nil
	}
	var handles []int
	for h, f := range l {
		if f.dir == dir {
			handles = append(handles, h)
		}
	}
	slices.SortFunc(handles, func(a, b int) int {
		return cmp.Or(cmp.Compare(l[a].turn, l[b].turn), cmp.Compare(a, b))
	})
	return handles
}

// first returns the least handle of a file that is searched for.
func (l files) first(fits func(h int, f file) bool) (int, bool) {
	for h := master; h <= api.MaxFiles; h++ {
		if f, ok := l[h]; ok && fits(h, f) {
			return h, true
		}
	}
	return 0, false
}

// byID returns the file in a directory with an identifier. (The master file is not in the directory 0.)
func (l files) byID(dir, id int) (int, bool) {
	return l.first(func(_ int, f file) bool { return dir != 0 && f.dir == dir && f.head.ID == id })
}

// byShort returns the file in a directory with a short identifier, which is not 0.
func (l files) byShort(dir, short int) (int, bool) {
	return l.first(func(_ int, f file) bool { return f.dir == dir && short != 0 && f.head.Short == short })
}
