package stmt

import (
	"sacristy/api"
	"sacristy/expr"
	"sacristy/lex"
)

// checker counts the statements that a program may still have: where none is left the walk ends, so that a list that is its own block ends, too.
type checker struct{ left int }

func mayBe(p api.Prog) bool {
	if len(p.Funcs) > api.MaxFuncs {
		return false
	}
	c := checker{left: api.MaxStmts}
	for _, f := range p.Funcs {
		if !lex.Named(f.Name) || !paramsFit(f.Params) || !retFits(f) || !c.block(f.Body, api.MaxDepth) {
			return false
		}
	}
	return true
}

func paramsFit(l []api.Param) bool {
	if len(l) > api.MaxParams {
		return false
	}
	for _, p := range l {
		if !lex.Named(p.Name) || p.Mut && !p.Buf {
			return false
		}
	}
	return true
}

func retFits(f api.Func) bool {
	if len(f.Ret) == 0 {
		return !f.Sec
	}
	return len(f.Ret) == 1 && allMayBe(f.Ret)
}

// block tells whether these statements may be, with at most so many one within the other.
func (c *checker) block(l []api.Stmt, deep int) bool {
	if len(l) > 0 && deep == 0 {
		return false
	}
	for _, s := range l {
		if c.left == 0 || !fits(s) {
			return false
		}
		c.left--
		if !c.block(s.Body, deep-1) || !c.block(s.Else, deep-1) {
			return false
		}
	}
	return true
}

// fits tells whether s may be; what its blocks are is not asked.
func fits(s api.Stmt) bool {
	if s.Kind == 0 || int(s.Kind) >= len(kinds) || !kinds[s.Kind].met(s) {
		return false
	}
	for _, name := range s.Args {
		if !lex.Named(name) {
			return false
		}
	}
	return allMayBe(s.Ex)
}

func allMayBe(l []api.Expr) bool {
	for _, e := range l {
		if expr.Check(e) != api.OK {
			return false
		}
	}
	return true
}
