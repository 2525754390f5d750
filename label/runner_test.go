package label_test

import (
	"sacristy/api"
	"sacristy/word"
)

// event is something of a run that can be seen from outside: which way it goes, which place it asks, what it divides, how long a buffer is, what is told, how it ends.
type event struct {
	what string
	a, b uint64
}

// over ends a run.
type over struct{}

// runner runs a program as the chapter of layer 16 has it, and notes what can be seen.
type runner struct {
	funcs map[string]api.Func
	seen  []event
	arena uint64
	fuel  int
}

// frame is what the names of a function that is run are.
type frame struct {
	numbers map[string]uint64
	buffers map[string][]byte
}

func (r *runner) see(what string, a, b uint64) { r.seen = append(r.seen, event{what, a, b}) }

func (r *runner) end(what string) {
	r.see(what, 0, 0)
	panic(over{})
}

// burn takes fuel.
func (r *runner) burn() {
	if r.fuel == 0 {
		r.end("out of fuel")
	}
	r.fuel--
}

func (r *runner) value(f frame, e api.Expr) uint64 {
	switch e.Kind {
	case api.ExVar:
		return f.numbers[e.Name]
	case api.ExLen:
		return uint64(len(f.buffers[e.Name]))
	case api.ExByte:
		b := f.buffers[e.Name]
		return uint64(b[r.place(b, r.value(f, e.Kids[0]))])
	case api.ExBin:
		a, b := r.value(f, e.Kids[0]), r.value(f, e.Kids[1])
		if e.Op == api.InDivu || e.Op == api.InRemu {
			r.see("divides", a, b)
			if b == 0 {
				r.end("trap: division")
			}
		}
		v, _ := word.Op(e.Op, a, b)
		return v
	}
	return e.Num
}

// place is at, which has to be one of b.
func (r *runner) place(b []byte, at uint64) uint64 {
	r.see("place", at, uint64(len(b)))
	if at >= uint64(len(b)) {
		r.end("trap: bounds")
	}
	return at
}

func (r *runner) block(f frame, l []api.Stmt) {
	arena := r.arena
	for _, s := range l {
		r.burn()
		r.stmt(f, s)
	}
	r.arena = arena
}

func (r *runner) stmt(f frame, s api.Stmt) {
	var values []uint64
	if s.Kind != api.StWhile {
		for _, e := range s.Ex {
			values = append(values, r.value(f, e))
		}
	}
	switch s.Kind {
	case api.StLet, api.StSet:
		f.numbers[s.Name] = values[0]
	case api.StOpen:
		r.see("told", values[0], 0)
		f.numbers[s.Name] = values[0]
	case api.StBuf:
		r.see("buffer", values[0], 0)
		if values[0] > r.arena || (values[0]+7)/8*8 > r.arena {
			r.end("trap: arena")
		}
		r.arena -= (values[0] + 7) / 8 * 8
		f.buffers[s.Name] = make([]byte, values[0])
	case api.StPut:
		b := f.buffers[s.Name]
		b[r.place(b, values[0])] = byte(values[1])
	case api.StIf:
		r.way(values[0])
		if values[0] != 0 {
			r.block(f, s.Body)
		} else {
			r.block(f, s.Else)
		}
	case api.StWhile:
		for r.way(r.value(f, s.Ex[0])) {
			r.burn()
			r.block(f, s.Body)
		}
	case api.StFor:
		for k := uint64(0); r.way(values[0] - k); k++ {
			r.burn()
			f.numbers[s.Name] = k
			r.block(f, s.Body)
		}
	case api.StView:
		b := f.buffers[s.From]
		r.see("view", values[0], values[1])
		if values[0] > values[1] || values[1] > uint64(len(b)) {
			r.end("trap: bounds")
		}
		f.buffers[s.Name] = b[values[0]:values[1]]
		r.block(f, s.Body)
	case api.StMove:
		f.buffers[s.Name] = f.buffers[s.From]
	case api.StCall:
		args := make([][]byte, len(s.Args))
		for k, name := range s.Args {
			args[k] = f.buffers[name]
		}
		f.numbers[s.Name] = r.call(r.funcs[s.From], values, args)
	}
}

// way tells whether a run goes on in a Body.
func (r *runner) way(v uint64) bool {
	is := uint64(0)
	if v != 0 {
		is = 1
	}
	r.see("way", is, 0)
	return is == 1
}

func (r *runner) call(fn api.Func, numbers []uint64, buffers [][]byte) (ret uint64) {
	f := frame{map[string]uint64{}, map[string][]byte{}}
	for _, p := range fn.Params {
		if p.Buf {
			f.buffers[p.Name], buffers = buffers[0], buffers[1:]
		} else {
			f.numbers[p.Name], numbers = numbers[0], numbers[1:]
		}
	}
	arena := r.arena
	r.block(f, fn.Body)
	for _, e := range fn.Ret {
		ret = r.value(f, e)
	}
	r.arena = arena
	return ret
}

// ran is what came of a run of p with this input, whose buffers are turned: what was seen, and the answer.
func ran(p api.Prog, numbers []uint64, buffers [][]byte) (seen []event, ret uint64) {
	const arena, fuel = 64, 300
	r := runner{funcs: map[string]api.Func{}, arena: arena, fuel: fuel}
	for _, f := range p.Funcs {
		r.funcs[f.Name] = f
	}
	defer func() {
		if wrong := recover(); wrong != nil {
			_ = wrong.(over)
			seen = r.seen
		}
	}()
	ret = r.call(p.Funcs[len(p.Funcs)-1], numbers, buffers)
	r.see("halt", 0, 0)
	return r.seen, ret
}

// alike is how many first events are the same.
func alike(a, b []event) (n int) {
	for n < len(a) && n < len(b) && a[n] == b[n] {
		n++
	}
	return n
}

// tells tells whether the event at is that a number is told.
func tells(l []event, at int) bool { return at < len(l) && l[at].what == "told" }
