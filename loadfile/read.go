package loadfile

import (
	"bytes"

	"smartcard/api"
	"smartcard/code"
)

// reader takes the parts of a package from the beginning of the bytes that are left. It panics with an error if they are not as they have to be.
type reader struct {
	left []byte
}

// take returns the next n bytes.
func (r *reader) take(n int) []byte {
	if len(r.left) < n {
		panic(api.ErrShort)
	}
	taken := r.left[:n]
	r.left = r.left[n:]
	return taken
}

// number reads a number of one byte.
func (r *reader) number() int { return int(r.take(1)[0]) }

// atMost reads a number of one byte, which must not be greater than most.
func (r *reader) atMost(most int) int {
	n := r.number()
	if n > most {
		panic(api.ErrForm)
	}
	return n
}

// word reads a number of two bytes.
func (r *reader) word() int { return r.number()<<8 | r.number() }

// readList reads a list.
func readList[T any](r *reader, read func() T) []T {
	var l []T
	for range r.number() {
		l = append(l, read())
	}
	return l
}

func (r *reader) name() []byte { return bytes.Clone(r.take(r.number())) }

func (r *reader) pack() api.Package {
	for _, c := range []byte(magic) {
		if r.number() != int(c) {
			panic(api.ErrForm)
		}
	}
	return api.Package{
		AID: r.name(), Major: r.number(), Minor: r.number(),
		Imports: readList(r, r.imported),
		Classes: readList(r, r.class),
		Methods: readList(r, r.method),
		Statics: readList(r, r.kind),
		Applets: readList(r, r.applet),
	}
}

func (r *reader) imported() api.Import {
	return api.Import{AID: r.name(), Major: r.number(), Minor: r.number()}
}

func (r *reader) ref() api.Ref { return api.Ref{Package: r.number(), Class: r.number()} }

// kind reads a type.
func (r *reader) kind() api.Type {
	t := api.Type{Kind: r.atMost(api.TypeClass)}
	if t.Kind == api.TypeClass {
		t.Class = r.ref()
	}
	return t
}

func (r *reader) class() api.Class {
	return api.Class{
		Interface: r.atMost(interfaceByte) == interfaceByte, Super: r.ref(),
		Extends:  readList(r, r.ref),
		Fields:   readList(r, r.kind),
		Virtuals: readList(r, r.virtual),
		Impls:    readList(r, r.impl),
	}
}

// virtual reads an element of Virtuals.
func (r *reader) virtual() int {
	n := r.number()
	if n == inherited&0xff {
		return inherited
	}
	return n
}

func (r *reader) impl() api.Impl {
	return api.Impl{Interface: r.ref(), Methods: readList(r, r.number)}
}

func (r *reader) method() api.Method {
	bits := r.atMost(staticBit | abstractBit)
	return api.Method{
		Static: bits&staticBit != 0, Abstract: bits&abstractBit != 0, Class: r.number(),
		Params: readList(r, r.kind), Result: r.kind(),
		Locals: r.number(), Stack: r.number(),
		Code: r.code(), Handlers: readList(r, r.handler),
	}
}

// code reads the instructions of a method.
func (r *reader) code() []api.Instr {
	l, e := code.Decode(r.take(r.word()))
	if e != api.OK {
		panic(e)
	}
	return l
}

func (r *reader) handler() api.Handler {
	return api.Handler{From: r.word(), To: r.word(), Target: r.word(), Word: r.word()}
}

func (r *reader) applet() api.Applet {
	return api.Applet{AID: r.name(), Class: r.number(), Install: r.number()}
}
