package code

import (
	"math"

	"smartcard/api"
)

// The forms of operands.
const (
	none    = iota // no operand
	integer        // 32 bits with a sign
	step           // 8 bits with a sign
	local
	jump
	pack   // a package, before a class
	callee // a package, before a method
	class
	method
	element // the type of an array
	field
	static
	virtual
	native
)

const systemClasses = api.ClassShareable + 1

// limits has, for each form whose operands are numbers from 0 on, the first number that is none of them. (Packages, before a class, include System in addition.)
var limits = [...]int{
	local:   api.MaxLocals,
	jump:    api.MaxCode,
	pack:    api.MaxImports + 1,
	callee:  api.MaxImports + 1,
	class:   api.MaxClasses,
	method:  api.MaxMethods,
	field:   api.MaxFields,
	static:  256,
	virtual: api.MaxVirtuals,
	native:  api.NativeCount,
}

// operands are the operands A, B and C of an instruction.
type operands [3]int

// forms are the forms of these operands. Operands that an instruction does not have come after all that it has.
type forms [3]int

// formsOf returns the forms of the operands of an instruction with the number op.
func formsOf(op int) forms {
	switch op {
	case api.InsPush:
		return forms{integer}
	case api.InsLoad, api.InsStore:
		return forms{local}
	case api.InsInc:
		return forms{local, step}
	case api.InsNew, api.InsCast, api.InsIs:
		return forms{pack, class}
	case api.InsArray:
		return forms{element}
	case api.InsGetField, api.InsPutField:
		return forms{pack, class, field}
	case api.InsGetStatic, api.InsPutStatic:
		return forms{static}
	case api.InsCall:
		return forms{callee, method}
	case api.InsVirtual, api.InsInvoke:
		return forms{pack, class, virtual}
	case api.InsNative:
		return forms{native}
	}
	if isJump(op) {
		return forms{jump}
	}
	return forms{}
}

// isJump reports whether op is the number of a jump, conditional or not.
func isJump(op int) bool { return op >= api.InsGoto && op <= api.InsIfOther }

// isBelow reports whether a number is from 0 to limit - 1.
func isBelow(n, limit int) bool { return n >= 0 && n < limit }

// fits reports whether a number can be an operand of a form, after the operand before.
func fits(form, n, before int) bool {
	switch {
	case form == integer:
		return n >= math.MinInt32 && n <= math.MaxInt32
	case form == step:
		return n >= math.MinInt8 && n <= math.MaxInt8
	case form == element:
		return n >= api.TypeBytes && n <= api.TypeRefs
	case form == pack && n == api.System:
		return true
	case form == class && before == api.System:
		return isBelow(n, systemClasses)
	}
	return isBelow(n, limits[form])
}

// width returns the number of bytes of an operand of a form.
func width(form int) int {
	switch form {
	case none:
		return 0
	case integer:
		return 4
	}
	return 1
}

// operand returns the operand of a form with the given bytes.
func operand(form int, b []byte) int {
	n := 0
	for _, x := range b {
		n = n<<8 | int(x)
	}
	switch form {
	case integer:
		return int(int32(n))
	case step:
		return int(int8(n))
	}
	return n
}

func operandsOf(i api.Instr) operands { return operands{i.A, i.B, i.C} }

func instr(op int, l operands) api.Instr { return api.Instr{Op: op, A: l[0], B: l[1], C: l[2]} }
