package loadfile

import (
	"bytes"

	"smartcard/api"
	"smartcard/code"
)

// The first bytes of packages.
const magic = "SC1"

// The first byte of a class.
const (
	classByte     = 0
	interfaceByte = 1
)

// The bits of the first byte of a method.
const (
	staticBit   = 1
	abstractBit = 2
)

const inherited = -1 // as an element of Virtuals; as a byte, it is FF

// writer collects the bytes of a package that was checked.
type writer struct {
	bytes.Buffer
}

// numbers writes numbers of one byte each.
func (w *writer) numbers(l ...int) {
	for _, n := range l {
		w.WriteByte(byte(n))
	}
}

// words writes numbers of two bytes each.
func (w *writer) words(l ...int) {
	for _, n := range l {
		w.numbers(n>>8, n)
	}
}

// writeList writes the number of the elements of a list, and the elements.
func writeList[T any](w *writer, l []T, write func(T)) {
	w.numbers(len(l))
	for _, x := range l {
		write(x)
	}
}

func (w *writer) number(n int) { w.numbers(n) }

func (w *writer) name(aid []byte) {
	w.numbers(len(aid))
	w.Write(aid)
}

func (w *writer) pack(p api.Package) {
	w.WriteString(magic)
	w.name(p.AID)
	w.numbers(p.Major, p.Minor)
	writeList(w, p.Imports, w.imported)
	writeList(w, p.Classes, w.class)
	writeList(w, p.Methods, w.method)
	writeList(w, p.Statics, w.kind)
	writeList(w, p.Applets, w.applet)
}

func (w *writer) imported(i api.Import) {
	w.name(i.AID)
	w.numbers(i.Major, i.Minor)
}

func (w *writer) ref(r api.Ref) { w.numbers(r.Package, r.Class) }

// kind writes a type.
func (w *writer) kind(t api.Type) {
	w.numbers(t.Kind)
	if t.Kind == api.TypeClass {
		w.ref(t.Class)
	}
}

func (w *writer) class(c api.Class) {
	if c.Interface {
		w.numbers(interfaceByte)
	} else {
		w.numbers(classByte)
	}
	w.ref(c.Super)
	writeList(w, c.Extends, w.ref)
	writeList(w, c.Fields, w.kind)
	writeList(w, c.Virtuals, w.number)
	writeList(w, c.Impls, w.impl)
}

func (w *writer) impl(i api.Impl) {
	w.ref(i.Interface)
	writeList(w, i.Methods, w.number)
}

func (w *writer) method(m api.Method) {
	bits := 0
	if m.Static {
		bits |= staticBit
	}
	if m.Abstract {
		bits |= abstractBit
	}
	w.numbers(bits, m.Class)
	writeList(w, m.Params, w.kind)
	w.kind(m.Result)
	w.numbers(m.Locals, m.Stack)
	b, _ := code.Encode(m.Code) // cannot fail, as the instructions were checked
	w.words(len(b))
	w.Write(b)
	writeList(w, m.Handlers, w.handler)
}

func (w *writer) handler(h api.Handler) { w.words(h.From, h.To, h.Target, h.Word) }

func (w *writer) applet(a api.Applet) {
	w.name(a.AID)
	w.numbers(a.Class, a.Install)
}
