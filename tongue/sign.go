package tongue

import "retort/api"

// The rules of what is reckoned, as the one stands above the other.
const (
	ruleOr = iota
	ruleAnd
	ruleCompare
	ruleSum
	ruleTerm
	ruleBare
)

// pair is a sign of two: its rule, the kind and N of the part that it says, and whether it says PNot of that.
type pair struct {
	sign          string
	rule, kind, n int
	not           bool
}

var pairs = []pair{
	{"||", ruleOr, api.POr, 0, false},
	{"&&", ruleAnd, api.PAnd, 0, false},
	{"==", ruleCompare, api.PTwo, api.IEq, false},
	{"!=", ruleCompare, api.PTwo, api.IEq, true},
	{"<", ruleCompare, api.PTwo, api.ILt, false},
	{">=", ruleCompare, api.PTwo, api.ILt, true},
	{">", ruleCompare, api.PTurn, api.ILt, false},
	{"<=", ruleCompare, api.PTurn, api.ILt, true},
	{"<#", ruleCompare, api.PTwo, api.IUlt, false},
	{">#", ruleCompare, api.PTurn, api.IUlt, false},
	{"==.", ruleCompare, api.PTwo, api.IFeq, false},
	{"<.", ruleCompare, api.PTwo, api.IFlt, false},
	{">.", ruleCompare, api.PTurn, api.IFlt, false},
	{"+", ruleSum, api.PTwo, api.IAdd, false},
	{"-", ruleSum, api.PTwo, api.ISub, false},
	{"|", ruleSum, api.PTwo, api.IOr, false},
	{"^", ruleSum, api.PTwo, api.IXor, false},
	{"+.", ruleSum, api.PTwo, api.IFadd, false},
	{"-.", ruleSum, api.PTwo, api.IFsub, false},
	{"*", ruleTerm, api.PTwo, api.IMul, false},
	{"/", ruleTerm, api.PTwo, api.IDiv, false},
	{"%", ruleTerm, api.PTwo, api.IRem, false},
	{"<<", ruleTerm, api.PTwo, api.IShl, false},
	{">>", ruleTerm, api.PTwo, api.IShr, false},
	{">>>", ruleTerm, api.PTwo, api.IUshr, false},
	{"&", ruleTerm, api.PTwo, api.IAnd, false},
	{"*.", ruleTerm, api.PTwo, api.IFmul, false},
	{"/.", ruleTerm, api.PTwo, api.IFdiv, false},
}

// single is a sign or a word of one; of a word brackets are a part.
type single struct {
	sign string
	n    int
	word bool
}

var singles = []single{
	{"-", api.INeg, false},
	{"~", api.INot, false},
	{"-.", api.IFneg, false},
	{"root", api.IFroot, true},
	{"float", api.IToF, true},
	{"int", api.IToI, true},
}

// isSign tells whether that is one, of whatever use.
func isSign(text string) bool {
	switch text {
	case "(", ")", "{", "}", "[", "]", ",", ";", "=", "!", "~", "#":
		return true
	}
	for _, p := range pairs {
		if p.sign == text {
			return true
		}
	}
	return false
}
