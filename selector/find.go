package selector

import (
	"smartcard/api"
	"smartcard/octets"
)

// The values of P1.
const (
	p1Near   = 0x00 // an identifier, of a child or above, or nothing for the master file
	p1Dir    = 0x01 // an identifier of a directory
	p1File   = 0x02 // an identifier of an elementary file
	p1Parent = 0x03
	p1Name   = 0x04
	p1Path   = 0x08 // identifiers from the master file on
	p1Below  = 0x09 // identifiers from the current directory on
)

// The bits of P2.
const (
	nextBit  = 0x02 // the next file with a name
	infoBits = 0x0c // what the data of the response are: the following values

	infoWhole = 0x00
	infoHead  = 0x04
	infoName  = 0x08
)

const (
	idBytes  = 2
	masterID = 0x3f00
)

// validParameters reports whether P1 and P2 have a meaning.
func validParameters(p1, p2 int) bool {
	switch p1 {
	case p1Near, p1Dir, p1File, p1Parent, p1Path, p1Below:
		return p2&^infoBits == 0
	case p1Name:
		return p2&^(infoBits|nextBit) == 0
	}
	return false
}

// find returns the file that valid parameters and data describe.
func (s *Selector) find(p1, p2 int, data []byte) (int, api.Errno) {
	switch p1 {
	case p1Dir:
		return identified(data, s.childDir)
	case p1File:
		return identified(data, s.childFile)
	case p1Parent:
		return s.parent(data)
	case p1Name:
		return s.named(data, p2&nextBit != 0)
	case p1Path:
		return s.along(data, master)
	case p1Below:
		return s.along(data, s.dir)
	}
	if len(data) == 0 {
		return master, api.OK
	}
	return identified(data, s.near)
}

// found returns the result of a search with its error.
func found(h int, ok bool) (int, api.Errno) {
	if !ok {
		return 0, api.ErrNone
	}
	return h, api.OK
}

// identified searches for the identifier of which data consist.
func identified(data []byte, search func(id int) (int, bool)) (int, api.Errno) {
	if len(data) != idBytes {
		return 0, api.ErrForm
	}
	id, _ := octets.Get(data)
	return found(search(id))
}

// near searches for an identifier in the current directory, and then above. The master file is found from everywhere.
func (s *Selector) near(id int) (int, bool) {
	if id == masterID {
		return master, true
	}
	if h, ok := s.t.ByID(s.dir, id); ok {
		return h, true
	}
	if s.t.Count() == 0 { // the files cannot be read: one of them might have been the child
		return 0, false
	}
	above, _ := s.t.Parent(s.dir)
	for _, h := range []int{s.dir, above} {
		if f, ok := s.t.Header(h); ok && f.ID == id {
			return h, true
		}
	}
	return 0, false
}

// childDir searches for an identifier among the directories in the current directory.
func (s *Selector) childDir(id int) (int, bool) {
	h, ok := s.t.ByID(s.dir, id)
	return h, ok && s.isDir(h)
}

// childFile searches for an identifier among the elementary files in the current directory.
func (s *Selector) childFile(id int) (int, bool) {
	h, ok := s.t.ByID(s.dir, id)
	return h, ok && !s.isDir(h)
}

// parent returns the parent of the current directory.
func (s *Selector) parent(data []byte) (int, api.Errno) {
	if len(data) > 0 {
		return 0, api.ErrForm
	}
	return found(s.t.Parent(s.dir))
}

// named searches for a directory whose name begins with data: the first one, or the next one after the current directory.
func (s *Selector) named(data []byte, next bool) (int, api.Errno) {
	if len(data) < 1 || len(data) > api.MaxAID {
		return 0, api.ErrForm
	}
	after := 0
	if next {
		after = s.dir
	}
	return found(s.t.ByName(data, after))
}

// along follows the path of which data consist, from a directory on.
func (s *Selector) along(data []byte, dir int) (int, api.Errno) {
	if len(data)%idBytes != 0 || len(data) < idBytes || len(data) > idBytes*api.MaxNest {
		return 0, api.ErrForm
	}
	pieces, _ := octets.Split(data, idBytes)
	path := make([]int, len(pieces))
	for i, b := range pieces {
		path[i], _ = octets.Get(b)
	}
	return found(s.t.ByPath(dir, path))
}
