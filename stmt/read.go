package stmt

import "sacristy/api"

func (r *reader) program() (p api.Prog) {
	for r.l[r.at].Kind != api.TkEnd {
		if len(p.Funcs) == api.MaxFuncs && r.next("fn") {
			r.stop(api.ErrLong)
		}
		p.Funcs = append(p.Funcs, r.function())
	}
	return p
}

func (r *reader) function() api.Func {
	r.take("fn")
	f := api.Func{Name: r.name()}
	r.take("(")
	f.Params = list(r, (*reader).param, ")")
	f.Body = r.block()
	if r.has("=") {
		f.Sec = r.has("secret")
		f.Ret = []api.Expr{r.expr()}
	}
	r.take(";")
	return f
}

func (r *reader) param() api.Param {
	p := api.Param{Mut: r.has("edit")}
	p.Buf = p.Mut || r.has("view")
	p.Sec = r.has("secret")
	if !p.Buf && !p.Sec {
		r.take("num")
	}
	p.Name = r.name()
	return p
}

func (r *reader) block() (l []api.Stmt) {
	r.take("{")
	r.deep++
	for !r.has("}") {
		l = append(l, r.statement())
	}
	r.deep--
	return l
}

func (r *reader) statement() api.Stmt {
	if r.deep > api.MaxDepth {
		r.stop(api.ErrDepth)
	}
	if r.begun == api.MaxStmts {
		r.stop(api.ErrLong)
	}
	r.begun++
	if read, is := r.reads[r.l[r.at].Text]; is {
		r.at++
		return read(r)
	}
	return r.setOrPut()
}

// reads is how a statement is read behind its first word.
func reads() map[string]func(*reader) api.Stmt {
	return map[string]func(*reader) api.Stmt{
		"let": (*reader).let, "buf": (*reader).buf, "if": (*reader).branch, "while": (*reader).while, "for": (*reader).count,
		"view": (*reader).view, "edit": (*reader).edit, "move": (*reader).move, "open": (*reader).open, "call": (*reader).call, "seal": (*reader).seal,
	}
}

func (r *reader) let() api.Stmt {
	s := api.Stmt{Kind: api.StLet, Sec: r.has("secret"), Name: r.name()}
	s.Ex = []api.Expr{r.between("=", ";")}
	return s
}

// setOrPut reads one of the statements that begin with a name.
func (r *reader) setOrPut() api.Stmt {
	s := api.Stmt{Kind: api.StSet, Name: r.name()}
	if r.next("[") {
		s.Kind = api.StPut
		s.Ex = append(s.Ex, r.between("[", "]"))
	}
	s.Ex = append(s.Ex, r.between("=", ";"))
	return s
}

func (r *reader) buf() api.Stmt {
	s := api.Stmt{Kind: api.StBuf, Sec: r.has("secret"), Name: r.name()}
	s.Ex = []api.Expr{r.between("[", "]")}
	r.take(";")
	return s
}

func (r *reader) branch() api.Stmt {
	s := api.Stmt{Kind: api.StIf, Ex: []api.Expr{r.expr()}, Body: r.block()}
	if r.has("else") {
		s.Else = r.block()
	}
	return s
}

func (r *reader) while() api.Stmt {
	return api.Stmt{Kind: api.StWhile, Ex: []api.Expr{r.expr()}, Body: r.block()}
}

func (r *reader) count() api.Stmt {
	s := api.Stmt{Kind: api.StFor, Name: r.name()}
	r.take("<")
	s.Ex = []api.Expr{r.expr()}
	s.Body = r.block()
	return s
}

func (r *reader) view() api.Stmt { return r.lent(false) }

func (r *reader) edit() api.Stmt { return r.lent(true) }

func (r *reader) lent(mut bool) api.Stmt {
	s := api.Stmt{Kind: api.StView, Mut: mut, Name: r.name()}
	r.take("=")
	s.From = r.name()
	s.Ex = []api.Expr{r.between("[", ".."), r.expr()}
	r.take("]")
	s.Body = r.block()
	return s
}

func (r *reader) move() api.Stmt {
	s := api.Stmt{Kind: api.StMove, Name: r.name()}
	r.take("=")
	s.From = r.name()
	r.take(";")
	return s
}

func (r *reader) open() api.Stmt {
	s := api.Stmt{Kind: api.StOpen, Name: r.name()}
	s.Ex = []api.Expr{r.between("=", ";")}
	return s
}

func (r *reader) call() api.Stmt {
	s := api.Stmt{Kind: api.StCall, From: r.name()}
	if r.has("=") {
		s.Name, s.From = s.From, r.name()
	}
	r.take("(")
	s.Ex = list(r, (*reader).expr, ";")
	s.Args = list(r, (*reader).name, ")")
	r.take(";")
	return s
}

func (r *reader) seal() api.Stmt {
	r.take(";")
	return api.Stmt{Kind: api.StSeal}
}
