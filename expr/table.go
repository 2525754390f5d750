package expr

import "sacristy/api"

// signs has the sign of each Op.
var signs = [...]string{
	api.InAdd:   "+",
	api.InSub:   "-",
	api.InSll:   "<<",
	api.InSlt:   "<$",
	api.InSltu:  "<",
	api.InXor:   "^",
	api.InSrl:   ">>",
	api.InSra:   ">>>",
	api.InOr:    "|",
	api.InAnd:   "&",
	api.InMul:   "*",
	api.InMulhu: "*^",
	api.InDivu:  "/",
	api.InRemu:  "%",
}

// signOf is the sign of op; "", if it has none.
func signOf(op uint8) string {
	if int(op) >= len(signs) {
		return ""
	}
	return signs[op]
}

// The other signs of expressions.
const (
	signLen   = "#"
	signOpen  = "["
	signClose = "]"
	signLeft  = "("
	signRight = ")"
)
