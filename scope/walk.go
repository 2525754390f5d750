package scope

import "sacristy/api"

// names is a set of names.
type names map[string]struct{}

func (n names) add(s string) { n[s] = struct{}{} }

// walker goes from item to item of a program that may be.
type walker struct {
	item  int   // the number of the one that it is at
	funcs names // those of the functions ahead
	given names // in this function, ahead of the item
	known names // at the item
}

// walk is the first fault of p, which may be.
func walk(p api.Prog) (err error) {
	defer func() {
		if wrong := recover(); wrong != nil {
			err = wrong.(api.Fault)
		}
	}()
	w := walker{funcs: names{}}
	for _, f := range p.Funcs {
		w.function(f)
	}
	return nil
}

// stop ends the walk at the item.
func (w *walker) stop(e api.Errno) {
	panic(api.Fault{At: w.item, Err: e})
}

// find stops the walk, unless s is one of these.
func (w *walker) find(n names, s string) {
	if _, is := n[s]; !is {
		w.stop(api.ErrNone)
	}
}

// fresh stops the walk, if s is one of these.
func (w *walker) fresh(n names, s string) {
	if _, is := n[s]; is {
		w.stop(api.ErrHave)
	}
}

// give gives a name, that is known from the next item on.
func (w *walker) give(s string) {
	w.fresh(w.given, s)
	w.given.add(s)
	w.known.add(s)
}

func (w *walker) function(f api.Func) {
	w.given, w.known = names{}, names{}
	w.fresh(w.funcs, f.Name)
	for _, p := range f.Params {
		w.give(p.Name)
	}
	w.item++
	w.statements(f.Body) // no block of its own: what it gives is known at the tail, too
	w.exprs(f.Ret)
	w.item++
	w.funcs.add(f.Name) // not ahead of its tail: it isn't ahead of itself
}

func (w *walker) statements(l []api.Stmt) {
	for _, s := range l {
		w.statement(s)
	}
}

func (w *walker) statement(s api.Stmt) {
	w.asks(s)
	name := gives(s)
	if name != "" {
		w.give(name)
	}
	w.item++
	w.block(s.Body)
	if withinAlone(s) {
		delete(w.known, name)
	}
	w.block(s.Else)
}

// block goes through l; what its statements gave is known up to its end.
func (w *walker) block(l []api.Stmt) {
	w.statements(l)
	for _, s := range l {
		delete(w.known, gives(s))
	}
}

// asks asks for the names that s asks.
func (w *walker) asks(s api.Stmt) {
	w.exprs(s.Ex)
	switch s.Kind {
	case api.StSet, api.StPut:
		w.find(w.known, s.Name)
	case api.StView, api.StMove:
		w.find(w.known, s.From)
	case api.StCall:
		for _, name := range s.Args {
			w.find(w.known, name)
		}
		w.find(w.funcs, s.From)
	}
}

func (w *walker) exprs(l []api.Expr) {
	for _, e := range l {
		if e.Name != "" {
			w.find(w.known, e.Name)
		}
		w.exprs(e.Kids)
	}
}

// gives is the name that s gives; nothing, if it gives none.
func gives(s api.Stmt) string {
	if s.Kind == api.StSet || s.Kind == api.StPut {
		return ""
	}
	return s.Name
}

// withinAlone tells whether the name that s gives is known in its Body alone.
func withinAlone(s api.Stmt) bool {
	return s.Kind == api.StFor || s.Kind == api.StView
}
