package records

import (
	"bytes"
	"slices"

	"smartcard/api"
)

// content is the content of an elementary file.
type content interface {
	take(item []byte) bool // takes the content from an item, which it may keep; false if no such content lies in it
	item() []byte          // returns the item in which the content lies
}

// listed is the content of a file with records.
type listed interface {
	content
	list() [][]byte           // the records themselves, in the order of their numbers
	check(b []byte) api.Errno // the error of bytes that cannot be a record
	add(b []byte) bool        // adds a record; false if there is no room for it
}

// contentOf returns the content that a file has at first, nil for a directory.
func contentOf(head api.File) content {
	switch head.Kind {
	case api.FileBinary:
		return &binary{make([]byte, head.Size)}
	case api.FileLinear:
		return &linear{head: head}
	case api.FileVariable:
		return &variable{linear{head: head}}
	case api.FileCyclic:
		return &cyclic{linear{head: head}}
	}
	return nil
}

// binary is the content of a transparent file, which is its item, too.
type binary struct {
	bytes []byte
}

func (c *binary) take(item []byte) bool {
	fits := len(item) == len(c.bytes)
	c.bytes = item
	return fits
}

func (c *binary) item() []byte { return c.bytes }

// linear is records of a fixed length. Its item is the records, one after the other.
type linear struct {
	head    api.File
	records [][]byte
}

func (c *linear) take(item []byte) bool {
	c.records = slices.Collect(slices.Chunk(item, c.head.Length))
	return len(item)%c.head.Length == 0 && len(c.records) <= c.head.Records
}

func (c *linear) item() []byte { return bytes.Join(c.records, nil) }

func (c *linear) list() [][]byte { return c.records }

func (c *linear) check(b []byte) api.Errno {
	switch {
	case len(b) > c.head.Length:
		return api.ErrLong
	case len(b) < c.head.Length:
		return api.ErrShort
	}
	return api.OK
}

func (c *linear) add(b []byte) bool {
	if len(c.records) == c.head.Records {
		return false
	}
	c.records = append(c.records, b)
	return true
}

// cyclic is the last records that were added, the newest one first.
type cyclic struct {
	linear
}

func (c *cyclic) add(b []byte) bool {
	c.records = slices.Insert(c.records, 0, b)
	c.records = c.records[:min(len(c.records), c.head.Records)]
	return true
}

// variable is records of different lengths. Its item is the records, one after the other, each after a byte with its length.
type variable struct {
	linear
}

func (c *variable) take(item []byte) bool {
	for len(item) > 0 {
		n, rest := int(item[0]), item[1:]
		if n > min(c.head.Length, len(rest)) {
			return false
		}
		c.records = append(c.records, rest[:n])
		item = rest[n:]
	}
	return len(c.records) <= c.head.Records
}

func (c *variable) item() []byte {
	var b []byte
	for _, r := range c.records {
		b = append(b, byte(len(r)))
		b = append(b, r...)
	}
	return b
}

func (c *variable) check(b []byte) api.Errno {
	if len(b) > c.head.Length {
		return api.ErrLong
	}
	return api.OK
}
