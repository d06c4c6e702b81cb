package registry_test

import (
	"bytes"
	"math"
	"testing"

	"smartcard/api"
	"smartcard/registry"
)

// valid is the definition.
func valid(e api.Entry) bool {
	isDomain, isApp, isPackage := e.Kind == api.EntryDomain, e.Kind == api.EntryApp, e.Kind == api.EntryPackage
	between := func(n, least, most int) bool { return n >= least && n <= most }
	for _, ok := range []bool{
		between(len(e.AID), 5, 16),
		between(len(e.Domain), 5, 16),
		isDomain || isApp || isPackage,
		isPackage && e.State == 1 || !isPackage && between(e.State, 2, 5),
		e.State == 5 && between(e.Before, 2, 4) || e.State != 5 && e.Before == 0,
		between(e.Privileges, 0, 31),
		!isPackage || e.Privileges == 0,
		isDomain && e.Package == 0 || !isDomain && between(e.Package, 1, 16),
		isApp && between(e.Object, 1, 512) || !isApp && e.Object == 0,
		isDomain || !bytes.Equal(e.AID, e.Domain),
	} {
		if !ok {
			return false
		}
	}
	return true
}

func expectCheck(t *testing.T, e api.Entry) bool {
	t.Helper()
	want := api.ErrArg
	if valid(e) {
		want = api.OK
	}
	if got := registry.Check(e); got != want {
		t.Fatal("Check of", text(e), "returns", got, "and not", want)
	}
	return want == api.OK
}

// P26.2

// TestCheck checks all combinations of numbers that are or are not valid.
func TestCheck(t *testing.T) {
	count := map[int]int{}
	for kind := range 5 {
		for state := range 8 {
			for before := range 7 {
				for _, privileges := range []int{0, 1, 16, 31, 32} {
					for _, n := range []int{0, 1, 16, 17} {
						for _, object := range []int{0, 1, 512, 513} {
							for _, of := range [][]byte{issuer, purse} {
								e := api.Entry{AID: purse, Domain: of, Kind: kind, State: state, Before: before, Privileges: privileges, Package: n, Object: object}
								if expectCheck(t, e) {
									count[kind]++
								}
							}
						}
					}
				}
			}
		}
	}
	if count[api.EntryDomain] != 2*6*4 || count[api.EntryApp] != 6*4*2*2 || count[api.EntryPackage] != 2 {
		t.Error("the numbers of valid entries are", count)
	}
}

// TestCheckLengths is about identifiers of all lengths.
func TestCheckLengths(t *testing.T) {
	for n := range 20 {
		for of := range 20 {
			for _, e := range []api.Entry{domainEntry(nil, nil), packageEntry(nil, nil, 1), appEntry(nil, nil, 1)} {
				e.AID, e.Domain = make([]byte, n), make([]byte, of)
				expectCheck(t, e)
				e.Domain = bytes.Repeat([]byte{1}, of)
				expectCheck(t, e)
			}
		}
	}
}

// TestCheckNumbers puts other numbers in each field.
func TestCheckNumbers(t *testing.T) {
	for _, e := range []api.Entry{issuerEntry(issuer), domainEntry(domain, issuer), packageEntry(library, issuer, 3), appEntry(purse, issuer, 3), with(appEntry(purse, issuer, 3), api.AppLocked, api.AppInstalled, 3)} {
		if !expectCheck(t, e) {
			t.Fatal(text(e), "is not valid")
		}
		for i := range 6 {
			for _, n := range []int{math.MinInt, math.MinInt + 1, -512, -256, -32, -16, -1, 0, 1, 2, 3, 4, 5, 6, 15, 17, 30, 31, 32, 63, 64, 255, 256, 257, 258, 511, 512, 513, 3 + 1<<8, 7 + 1<<16, 1<<32 + 1, math.MaxInt} {
				x := e
				*[]*int{&x.Kind, &x.State, &x.Before, &x.Privileges, &x.Package, &x.Object}[i] = n
				expectCheck(t, x)
			}
		}
	}
	expectCheck(t, api.Entry{})
}

// TestAddOfInvalid expects that Add returns ErrArg for what is not valid, whatever else is wrong, and stores what is valid as it is.
func TestAddOfInvalid(t *testing.T) {
	c := usual(t)
	c.begin(t)
	for state := range 7 {
		for before := range 6 {
			for privileges := range 34 {
				for object := range 3 {
					e := with(appEntry(nobody, issuer, 1), state, before, privileges)
					e.Object = object * 300
					if !valid(e) {
						c.add(t, e, api.ErrArg)
						continue
					}
					c.add(t, e, api.OK)
					c.find(t, e)
					c.remove(t, nobody, api.OK)
				}
			}
		}
	}
	c.commit(t)
	c.none(t, nobody)
}

// TestRoundTrip adds entries with identifiers of all lengths.
func TestRoundTrip(t *testing.T) {
	for n := api.MinAID; n <= api.MaxAID; n++ {
		for of := api.MinAID; of <= api.MaxAID; of++ {
			home, aid := bytes.Repeat([]byte{byte(n)}, of), bytes.Repeat([]byte{0xff}, n)
			l := []api.Entry{issuerEntry(home), packageEntry(append(bytes.Clone(home[1:]), 0xfe), home, n), with(appEntry(aid, home, n), api.AppLocked, api.AppPersonal, 17)}
			l[2].Object = n*32 - of
			c := newCard(t, 4096)
			for _, e := range l {
				c.add(t, e, api.OK)
				c.find(t, e)
				mounted(t, c.mem).find(t, e)
			}
		}
	}
}

// P26.10

func TestSame(t *testing.T) {
	l := []api.Entry{{}, issuerEntry(issuer), domainEntry(domain, issuer), packageEntry(library, issuer, 3), appEntry(purse, issuer, 3), {AID: []byte{}, Domain: []byte{}}, {AID: []byte{0}}, {Domain: []byte{0}}}
	for _, e := range l {
		for i := range 6 {
			for _, n := range []int{math.MinInt, -1, 0, 1, 2, 3, 7, 256, 1 << 32, math.MaxInt} {
				x := e
				*[]*int{&x.Kind, &x.State, &x.Before, &x.Privileges, &x.Package, &x.Object}[i] = n
				l = append(l, x)
			}
		}
		for _, b := range [][]byte{nil, {}, {0xa0, 0, 0, 0}, bytes.Clone(issuer), bytes.Clone(library), append(bytes.Clone(issuer), 0), nobody} {
			x, y := e, e
			x.AID, y.Domain = b, b
			l = append(l, x, y)
		}
	}
	alike := 0
	for _, a := range l {
		for _, b := range l {
			want := equal(a, b)
			if registry.Same(a, b) != want {
				t.Fatal("Same of", text(a), "and", text(b), "is", !want)
			}
			if want {
				alike++
			}
		}
	}
	if alike <= len(l) {
		t.Error("no two entries are equal")
	}
	if !registry.Same(api.Entry{AID: []byte{}}, api.Entry{Domain: []byte{}}) {
		t.Error("nil and empty identifiers are not equal")
	}
}
