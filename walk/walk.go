// Package walk goes from item to item of a program, for the layers that ask what of it is let be.
package walk

import "sacristy/api"

// Looks is how a layer L looks at items: at heads, at statements, by their kinds, and at tails. At a statement with blocks it goes through them by Block, so that it can do something ahead of each, and behind.
type Looks[L any] struct {
	Head  func(L, api.Func)
	Stmts map[uint8]func(L, api.Stmt)
	Tail  func(L, api.Func)
}

// Walk is a layer's walk through a program.
type Walk[L any] struct {
	layer L
	looks Looks[L]
	begun int                 // how many items, with the one that it is at
	funcs map[string]api.Func // those ahead
}

// Through lets the layer look at each item of p, which scope lets be, and is the fault that ended that, if one did.
func (w *Walk[L]) Through(p api.Prog, layer L, looks Looks[L]) (err error) {
	defer func() {
		if wrong := recover(); wrong != nil {
			err = wrong.(api.Fault)
		}
	}()
	*w = Walk[L]{layer: layer, looks: looks, funcs: map[string]api.Func{}}
	for _, f := range p.Funcs {
		w.begun++
		looks.Head(layer, f)
		w.Block(f.Body)
		w.begun++
		looks.Tail(layer, f)
		w.funcs[f.Name] = f
	}
	return nil
}

// Block looks at the statements of a block.
func (w *Walk[L]) Block(l []api.Stmt) {
	for _, s := range l {
		w.begun++
		w.looks.Stmts[s.Kind](w.layer, s)
	}
}

// Stop ends the walk at the item.
func (w *Walk[L]) Stop(e api.Errno) {
	panic(api.Fault{At: w.begun - 1, Err: e})
}

// Ahead is the function of that name ahead of the one that the item is of.
func (w *Walk[L]) Ahead(name string) api.Func { return w.funcs[name] }

// Params is those of f that are numbers, and those that are buffers.
func Params(f api.Func) (numbers, buffers []api.Param) {
	for _, p := range f.Params {
		if p.Buf {
			buffers = append(buffers, p)
		} else {
			numbers = append(numbers, p)
		}
	}
	return numbers, buffers
}
