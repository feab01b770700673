package wasm

import "mortise/api"

// The functions that are called by these numbers are not the module's; its own follow.
const (
	inFunction = iota
	outFunction
	trapFunction
	imported
)

// isValue tells whether a value may have a type.
func isValue(t int) bool { return t == api.Int || t == api.Long }

// isPlace tells whether a number is a place among so many.
func isPlace(n, count int) bool { return n >= 0 && n < count }

// listsOf are the lists to which an instruction refers, an if's Body first.
func listsOf(i api.W) []int {
	switch i.Op {
	case api.WBlock, api.WLoop:
		return []int{i.Body}
	case api.WIf:
		if i.Other >= 0 {
			return []int{i.Body, i.Other}
		}
		return []int{i.Body}
	}
	return nil
}

// hasForm tells whether there are such an Op, such a sign, such a Type, and such a number of bytes.
func hasForm(i api.W) bool {
	switch i.Op {
	case api.WConst, api.WEqz:
		return isValue(i.Type)
	case api.WBin:
		return isValue(i.Type) && operation(i.S) != ""
	case api.WLoad, api.WStore:
		return hasBytes(i.Type, i.N)
	}
	return i.Op >= api.WConst && i.Op <= api.WDrop
}

// hasBytes tells whether a value of a type may be loaded from so many bytes, and stored in them.
func hasBytes(t, count int) bool {
	switch t {
	case api.Int:
		return count == 1 || count == 4
	case api.Long:
		return count == 8
	}
	return false
}

// operation is the sign by which package word knows a sign; none: there is no such sign.
func operation(sign string) string {
	switch sign {
	case "add":
		return "+"
	case "sub":
		return "-"
	case "mul":
		return "*"
	case "div_s":
		return "/"
	case "rem_s":
		return "%"
	case "and":
		return "&"
	case "or":
		return "|"
	case "xor":
		return "^"
	case "shl":
		return "<<"
	case "shr_s":
		return ">>"
	}
	return comparison(sign)
}

// comparison is the same for the signs that compare alone.
func comparison(sign string) string {
	switch sign {
	case "eq":
		return "=="
	case "ne":
		return "!="
	case "lt_s":
		return "<"
	case "le_s":
		return "<="
	case "gt_s":
		return ">"
	case "ge_s":
		return ">="
	}
	return ""
}

// resultType is the type of what a WBin pushes.
func resultType(i api.W) int {
	if comparison(i.S) != "" {
		return api.Int
	}
	return i.Type
}
