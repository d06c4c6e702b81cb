package records_test

import (
	"bytes"
	"fmt"
	"maps"
	"math"
	"math/rand/v2"
	"slices"
	"testing"

	"smartcard/api"
)

// files is what Files and the model have in common.
type files interface {
	ReadBinary(h, off, n int) ([]byte, api.Errno)
	UpdateBinary(h, off int, b []byte) api.Errno
	Erase(h, off, n int) api.Errno
	Count(h int) (int, api.Errno)
	Read(h, n int) ([]byte, api.Errno)
	Update(h, n int, b []byte) api.Errno
	Append(h int, b []byte) api.Errno
	Search(h, from int, pattern []byte) ([]int, api.Errno)
}

// file is a file with its content: bytes, or records in the order in which they were appended, all that there ever were.
type file struct {
	head    api.File
	bytes   []byte
	records [][]byte
}

// model is contents as the document defines them.
type model map[int]*file

func newFile(head api.File) *file { return &file{head: head, bytes: make([]byte, head.Size)} }

func (m model) copied() model {
	c := model{}
	for h, x := range m {
		c[h] = &file{x.head, bytes.Clone(x.bytes), slices.Clone(x.records)}
	}
	return c
}

// lasting returns the records that are there.
func (x *file) lasting() [][]byte {
	return x.records[max(0, len(x.records)-x.head.Records):]
}

// place returns the index among all records of the one with a number, -1 if there is none.
func (x *file) place(n int) int {
	count := len(x.lasting())
	switch {
	case n < 1 || n > count:
		return -1
	case x.head.Kind == api.FileCyclic:
		return len(x.records) - n
	}
	return n - 1
}

func (m model) binary(h, off, n int) (*file, api.Errno) {
	x := m[h]
	switch {
	case off < 0 || n < 0:
		return nil, api.ErrArg
	case x == nil:
		return nil, api.ErrNone
	case x.head.Kind != api.FileBinary:
		return nil, api.ErrType
	}
	return x, api.OK
}

func (m model) listed(h int) (*file, api.Errno) {
	x := m[h]
	switch {
	case x == nil:
		return nil, api.ErrNone
	case x.head.Kind == api.FileBinary || x.head.Kind == api.FileDF:
		return nil, api.ErrType
	}
	return x, api.OK
}

func (m model) ReadBinary(h, off, n int) ([]byte, api.Errno) {
	x, e := m.binary(h, off, n)
	switch {
	case e != api.OK:
		return nil, e
	case off > x.head.Size:
		return nil, api.ErrRange
	}
	var b []byte
	for ; n > 0 && off < x.head.Size; n-- {
		b = append(b, x.bytes[off])
		off++
	}
	return b, api.OK
}

func (m model) UpdateBinary(h, off int, b []byte) api.Errno {
	x, e := m.binary(h, off, 0)
	switch {
	case e != api.OK:
		return e
	case off > x.head.Size || off+len(b) > x.head.Size:
		return api.ErrRange
	}
	for i, value := range b {
		x.bytes[off+i] = value
	}
	return api.OK
}

func (m model) Erase(h, off, n int) api.Errno {
	if n > 2*api.MaxFile { // more than any file has
		n = 2 * api.MaxFile
	}
	if n < 0 {
		return api.ErrArg
	}
	return m.UpdateBinary(h, off, make([]byte, n))
}

func (m model) Count(h int) (int, api.Errno) {
	x, e := m.listed(h)
	if e != api.OK {
		return 0, e
	}
	return len(x.lasting()), api.OK
}

func (m model) Read(h, n int) ([]byte, api.Errno) {
	x, e := m.listed(h)
	switch {
	case e != api.OK:
		return nil, e
	case x.place(n) < 0:
		return nil, api.ErrRange
	}
	return x.records[x.place(n)], api.OK
}

// fits returns the error of bytes that cannot be a record.
func (x *file) fits(b []byte) api.Errno {
	switch {
	case len(b) > x.head.Length:
		return api.ErrLong
	case len(b) < x.head.Length && x.head.Kind != api.FileVariable:
		return api.ErrShort
	}
	return api.OK
}

func (m model) Update(h, n int, b []byte) api.Errno {
	x, e := m.listed(h)
	switch {
	case e != api.OK:
		return e
	case x.place(n) < 0:
		return api.ErrRange
	}
	if e := x.fits(b); e != api.OK {
		return e
	}
	x.records[x.place(n)] = b
	return api.OK
}

func (m model) Append(h int, b []byte) api.Errno {
	x, e := m.listed(h)
	if e != api.OK {
		return e
	}
	if e := x.fits(b); e != api.OK {
		return e
	}
	if len(x.records) == x.head.Records && x.head.Kind != api.FileCyclic {
		return api.ErrFull
	}
	x.records = append(x.records, b)
	return api.OK
}

func (m model) Search(h, from int, pattern []byte) ([]int, api.Errno) {
	x, e := m.listed(h)
	switch {
	case e != api.OK:
		return nil, e
	case x.place(from) < 0:
		return nil, api.ErrRange
	}
	var l []int
	for ; x.place(from) >= 0; from++ {
		record := x.records[x.place(from)]
		for at := range len(record) + 1 {
			if bytes.HasPrefix(record[at:], pattern) {
				l = append(l, from)
				break
			}
		}
	}
	return l, api.OK
}

// call is a call of files, with its result as a text.
type call func(f files) (string, api.Errno)

func shown(result any, e api.Errno) (string, api.Errno) { return fmt.Sprint(result), e }

// someBytes returns bytes of which few are different, so that patterns are found.
func someBytes(r *rand.Rand, n int) []byte {
	b := make([]byte, max(0, n))
	for i := range b {
		b[i] = byte(r.IntN(3))
	}
	return b
}

// near returns a number that is at most n, or a bit more, or not a valid one.
func near(r *rand.Rand, n int) int {
	switch r.IntN(20) {
	case 0:
		return -1 - r.IntN(2)
	case 1:
		return n + r.IntN(3)
	case 2:
		return []int{math.MaxInt, math.MinInt}[r.IntN(2)]
	}
	return r.IntN(n + 1)
}

// someFile returns the handle of a file of the model, or now and then another number.
func someFile(r *rand.Rand, m model) int {
	if r.IntN(25) == 0 {
		return []int{-1, 0, 129, 640, len(m) + 1}[r.IntN(5)]
	}
	l := slices.Sorted(maps.Keys(m))
	return l[r.IntN(len(l))]
}

// randomCall returns a call for a file.
func randomCall(r *rand.Rand, m model) call {
	h := someFile(r, m)
	head := api.File{Size: 3}
	count := 3
	if x := m[h]; x != nil {
		head, count = x.head, len(x.lasting())
	}
	binary := head.Kind == api.FileBinary
	if r.IntN(25) == 0 { // of the wrong kind
		binary = !binary
	}
	if binary {
		return binaryCall(r, h, head.Size)
	}
	return listCall(r, h, head, count)
}

func binaryCall(r *rand.Rand, h, size int) call {
	off := near(r, size)
	switch n := near(r, max(0, size-off)); r.IntN(4) {
	case 0:
		return func(f files) (string, api.Errno) { b, e := f.ReadBinary(h, off, n); return shown(b, e) }
	case 1:
		return func(f files) (string, api.Errno) { return shown(0, f.Erase(h, off, n)) }
	default:
		b := someBytes(r, min(n, 1100))
		return func(f files) (string, api.Errno) { return shown(0, f.UpdateBinary(h, off, b)) }
	}
}

func listCall(r *rand.Rand, h int, head api.File, count int) call {
	length := head.Length
	switch {
	case r.IntN(12) == 0:
		length += 1 + r.IntN(2)*250
	case head.Kind == api.FileVariable || r.IntN(20) == 0:
		length = r.IntN(length + 1)
	}
	b := someBytes(r, length)
	n := near(r, count)
	switch r.IntN(8) {
	case 0:
		return func(f files) (string, api.Errno) { c, e := f.Count(h); return shown(c, e) }
	case 1:
		return func(f files) (string, api.Errno) { c, e := f.Read(h, n); return shown(c, e) }
	case 2:
		pattern := someBytes(r, r.IntN(4))
		return func(f files) (string, api.Errno) { l, e := f.Search(h, n, pattern); return shown(l, e) }
	case 3, 4:
		return func(f files) (string, api.Errno) { return shown(0, f.Update(h, n, b)) }
	}
	return func(f files) (string, api.Errno) { return shown(0, f.Append(h, b)) }
}

// onBoth makes a call of files and of the model; it returns its error.
func onBoth(t *testing.T, f files, m model, c call) api.Errno {
	t.Helper()
	got, e := c(f)
	want, wantE := c(m)
	if got != want || e != wantE {
		t.Fatal("a call returns", got, e, "and not", want, wantE)
	}
	return e
}

// contents returns all contents as a text.
func contents(f files) string {
	text := ""
	for h := range 20 {
		b, e := f.ReadBinary(h, 0, api.MaxFile)
		n, e2 := f.Count(h)
		text += fmt.Sprintf("%d: %x %d %d %d", h, b, n, e, e2)
		for i := range n {
			b, e := f.Read(h, i+1)
			text += fmt.Sprintf(" %x %d", b, e)
		}
		text += "\n"
	}
	return text
}

func expectModel(t *testing.T, f files, m model) {
	t.Helper()
	if got, want := contents(f), contents(m); got != want {
		t.Fatalf("the contents are\n%s\nand not\n%s", got, want)
	}
}

// someHead returns the header of a file.
func someHead(r *rand.Rand, id int) api.File {
	switch kind := api.FileDF + r.IntN(5); kind {
	case api.FileDF:
		return directory(id)
	case api.FileBinary:
		return binary(id, 1+r.IntN(60))
	default:
		return listed(id, kind, 1+r.IntN(8), 1+r.IntN(6))
	}
}

// addFile creates a file in the master file, and in the model.
func addFile(t *testing.T, c *card, m model, head api.File) {
	t.Helper()
	m[c.create(t, head)] = newFile(head)
}

// filled returns a card with a file of each kind and some more, and the model.
func filled(t *testing.T, r *rand.Rand, words int) (*card, model) {
	t.Helper()
	c := newCard(t, words)
	m := model{1: newFile(directory(0x3f00))}
	addFile(t, c, m, directory(1))
	addFile(t, c, m, binary(2, 1+r.IntN(60)))
	for i, kind := range listKinds {
		addFile(t, c, m, listed(3+i, kind, 1+r.IntN(8), 1+r.IntN(6)))
	}
	for id := range 4 {
		addFile(t, c, m, someHead(r, 10+id))
	}
	return c, m
}

// P17.2 to P17.8

// TestModel makes random calls, in transactions and outside, and compares all that can be seen. Now and then files are removed and created, and the vault is mounted again.
func TestModel(t *testing.T) {
	count := map[api.Errno]int{}
	for seed := range uint64(12) {
		r := rand.New(rand.NewPCG(seed, 17))
		c, m := filled(t, r, 16384)
		marks := map[int]model{} // the model for each mark of the transaction
		id := 100
		for i := range 500 {
			switch n := r.IntN(60); {
			case n == 0 && !c.v.Active():
				c = mounted(t, c.mem)
			case n == 1:
				replaceFile(t, r, c, m, id)
				id++
			case n < 6:
				m = endOrBegin(t, r, c, m, marks)
			default:
				count[onBoth(t, c.f, m, randomCall(r, m))]++
			}
			marks[c.v.Save()] = m.copied()
			if i%10 == 0 {
				expectModel(t, c.f, m)
			}
		}
		expectModel(t, c.f, m)
	}
	for _, e := range []api.Errno{api.OK, api.ErrArg, api.ErrNone, api.ErrType, api.ErrRange, api.ErrLong, api.ErrShort, api.ErrFull} {
		if count[e] < 20 {
			t.Error("the result", e, "occurred", count[e], "times")
		}
	}
}

// replaceFile removes a file, and creates another one with its handle.
func replaceFile(t *testing.T, r *rand.Rand, c *card, m model, id int) {
	t.Helper()
	h := 2 + r.IntN(len(m)-1)
	expect(t, "Remove", c.t.Remove(h), api.OK)
	head := someHead(r, id)
	if got := c.create(t, head); got != h {
		t.Fatal("the handle is", got)
	}
	m[h] = newFile(head)
}

// endOrBegin begins a transaction, or ends the current one in one of several ways, or goes back in it. It returns the model that holds then.
func endOrBegin(t *testing.T, r *rand.Rand, c *card, m model, marks map[int]model) model {
	t.Helper()
	if !c.v.Active() {
		clear(marks)
		expect(t, "Begin", c.v.Begin(), api.OK)
		marks[0] = m.copied()
		return m
	}
	switch r.IntN(3) {
	case 0:
		expect(t, "Abort", c.v.Abort(), api.OK)
		return marks[0].copied()
	case 1:
		l := slices.Sorted(maps.Keys(marks))
		l = slices.DeleteFunc(l, func(mark int) bool { return mark > c.v.Save() })
		mark := l[r.IntN(len(l))]
		expect(t, "Back", c.v.Back(mark), api.OK)
		return marks[mark].copied()
	}
	expect(t, "Commit", c.v.Commit(), api.OK)
	return m
}

// P17.7

// TestCyclicFile appends many records: the last ones remain, the newest one first.
func TestCyclicFile(t *testing.T) {
	for _, number := range []int{1, 2, 3, 7, 254} {
		c := newCard(t, 16384)
		h := c.create(t, listed(1, api.FileCyclic, 2, number))
		var want [][]byte
		for n := range number + 20 {
			b := []byte{byte(n >> 8), byte(n)}
			expect(t, "Append", c.f.Append(h, b), api.OK)
			want = slices.Insert(want, 0, b)
			want = want[:min(len(want), number)]
			if n < 5 || n > number-3 {
				expectRecords(t, c.f, h, want)
			}
		}
	}
}

// Objects

// TestTwoFiles opens the contents twice: a change through one of them is seen through the other.
func TestTwoFiles(t *testing.T) {
	r := rand.New(rand.NewPCG(1, 18))
	c, m := filled(t, r, 16384)
	d := &card{v: c.v}
	d.f = mountedFiles(t, c)
	for i := range 300 {
		f := []files{c.f, d.f}[i%2]
		onBoth(t, f, m, randomCall(r, m))
		if i%10 == 0 {
			expectModel(t, c.f, m)
			expectModel(t, d.f, m)
		}
	}
}
