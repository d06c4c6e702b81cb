package loadfile

import (
	"slices"

	"smartcard/api"
	"smartcard/code"
)

const maxWord = 0xffff // the greatest status word

// checkMethod checks a method of a package.
func checkMethod(p api.Package, m api.Method) api.Errno {
	switch {
	case m.Static && m.Class != 0 || !m.Static && !isBelow(m.Class, len(p.Classes)):
		return api.ErrRange
	case len(m.Params) > api.MaxParams:
		return api.ErrLong
	case !areUsable(p, m.Params) || !isResult(p, m.Result):
		return api.ErrType
	case m.Abstract != (!m.Static && p.Classes[m.Class].Interface):
		return api.ErrForm
	case m.Abstract:
		return checkAbstract(m)
	}
	return checkBody(p, m)
}

func checkAbstract(m api.Method) api.Errno {
	if m.Locals != 0 || m.Stack != 0 || len(m.Code) > 0 || len(m.Handlers) > 0 {
		return api.ErrForm
	}
	return api.OK
}

// checkBody checks what a method has that is not abstract.
func checkBody(p api.Package, m api.Method) api.Errno {
	switch {
	case m.Locals < arguments(m) || m.Locals > api.MaxLocals || m.Stack < 0 || m.Stack > api.MaxStack:
		return api.ErrRange
	case len(m.Code) == 0:
		return api.ErrForm
	case len(m.Code) > api.MaxCode || len(m.Handlers) > api.MaxHandlers:
		return api.ErrLong
	}
	if e := first(len(m.Code), func(n int) api.Errno { return checkInstr(p, m, m.Code[n]) }); e != api.OK {
		return e
	}
	if slices.ContainsFunc(m.Handlers, func(h api.Handler) bool { return !isHandler(h, len(m.Code)) }) {
		return api.ErrRange
	}
	return api.OK
}

// arguments returns the number of arguments of a method.
func arguments(m api.Method) int {
	if m.Static {
		return len(m.Params)
	}
	return len(m.Params) + 1
}

// isHandler reports whether a handler fits a method with a number of instructions.
func isHandler(h api.Handler, instructions int) bool {
	return h.From >= 0 && h.From < h.To && h.To <= instructions && isBelow(h.Target, instructions) && isBelow(h.Word, maxWord+1)
}

// checkInstr checks an instruction of a method.
func checkInstr(p api.Package, m api.Method, i api.Instr) api.Errno {
	if e := code.Check(i); e != api.OK {
		return e
	}
	if !namesExist(p, m, i) {
		return api.ErrRange
	}
	return api.OK
}

// namesExist reports whether everything exists that an instruction names, as far as the package tells.
func namesExist(p api.Package, m api.Method, i api.Instr) bool {
	switch i.Op {
	case api.InsNew, api.InsGetField, api.InsPutField, api.InsVirtual, api.InsInvoke, api.InsCast, api.InsIs:
		return isInRange(p, api.Ref{Package: i.A, Class: i.B})
	case api.InsGetStatic, api.InsPutStatic:
		return isBelow(i.A, len(p.Statics))
	case api.InsCall:
		if i.A == 0 {
			return isBelow(i.B, len(p.Methods))
		}
		return i.A <= len(p.Imports) // code.Check tells the rest
	}
	if i.Op >= api.InsGoto && i.Op <= api.InsIfOther {
		return isBelow(i.A, len(m.Code))
	}
	return true
}
