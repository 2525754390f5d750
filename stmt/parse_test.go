package stmt_test

import (
	"errors"
	"reflect"
	"strings"
	"testing"

	"sacristy/api"
	"sacristy/lex"
	"sacristy/stmt"
)

// parses asks that s is the text of p, which may be.
func parses(t *testing.T, s string, p api.Prog) {
	t.Helper()
	got, err := stmt.Parse(s)
	if err != nil || !same(got, p) {
		t.Errorf("Parse(%q): %s, %v; not %s", short(s), short(told(got)), err, short(told(p)))
	}
	if stmt.Check(p) != api.OK || stmt.Check(got) != api.OK {
		t.Errorf("Check of %q: %v, as it is read %v", short(s), stmt.Check(p), stmt.Check(got))
	}
}

// refused asks that s is no program's text, but an error with its place, that is found by each of the ways to ask for it.
func refused(t *testing.T, s string, wrong api.Errno, place int) {
	t.Helper()
	p, err := stmt.Parse(s)
	f := api.Fault{At: place, Err: wrong}
	var asFault api.Fault
	var asErrno api.Errno
	if err != error(f) || !errors.As(err, &asFault) || asFault != f || !errors.As(err, &asErrno) || asErrno != wrong || !errors.Is(err, wrong) {
		t.Errorf("Parse(%q): %v, not %v", short(s), err, f)
	}
	if len(p.Funcs) != 0 {
		t.Errorf("Parse(%q): %q beside an error", short(s), short(told(p)))
	}
}

// short is the beginning of a text, and its end.
func short(s string) string {
	if len(s) <= 300 {
		return s
	}
	return s[:100] + " .. " + s[len(s)-180:]
}

// TestParseExample (P8.2): the chapter's.
func TestParseExample(t *testing.T) {
	p := funcs(api.Func{
		Name:   "main",
		Params: []api.Param{{Name: "n"}, {Name: "k", Buf: true, Sec: true}},
		Body: stmts(
			let("x", length("k")),
			api.Stmt{Kind: api.StWhile, Ex: exprs(two(api.InSltu, variable("x"), variable("n"))), Body: stmts(
				api.Stmt{Kind: api.StSet, Name: "x", Ex: exprs(two(api.InAdd, variable("x"), num(1)))},
			)},
		),
		Ret: exprs(variable("x")),
	})
	parses(t, "fn main(num n, view secret k) { let x = #k; while (x < n) { x = (x + 1); } } = x;", p)
	parses(t, "fn main(num n,view secret k){let x=#k;while(x<n){x=(x+1);}}=x;", p)
	parses(t, " \n fn main ( num n , view secret k ) \n{ let x = # k ; while ( x < n )\n{ x = ( x + 1 ) ; } \n} = x ; \n\n", p)
}

// TestParseStmts (P8.2): each kind of statements, written out by hand.
func TestParseStmts(t *testing.T) {
	a, b := variable("a"), variable("b")
	for s, want := range map[string]api.Stmt{
		"let x = a;":                      {Kind: api.StLet, Name: "x", Ex: exprs(a)},
		"let secret x = (a+b);":           {Kind: api.StLet, Name: "x", Sec: true, Ex: exprs(two(api.InAdd, a, b))},
		"x = a[b];":                       {Kind: api.StSet, Name: "x", Ex: exprs(byteOf("a", b))},
		"buf x[8];":                       {Kind: api.StBuf, Name: "x", Ex: exprs(num(8))},
		"buf secret x[#a];":               {Kind: api.StBuf, Name: "x", Sec: true, Ex: exprs(length("a"))},
		"x[a] = b;":                       {Kind: api.StPut, Name: "x", Ex: exprs(a, b)},
		"x[x[0]] = x[1];":                 {Kind: api.StPut, Name: "x", Ex: exprs(byteOf("x", num(0)), byteOf("x", num(1)))},
		"if a { }":                        {Kind: api.StIf, Ex: exprs(a)},
		"if a { } else { }":               {Kind: api.StIf, Ex: exprs(a)},
		"if a { seal; }":                  {Kind: api.StIf, Ex: exprs(a), Body: seals(1)},
		"if a { seal; } else { }":         {Kind: api.StIf, Ex: exprs(a), Body: seals(1)},
		"if a { } else { seal; }":         {Kind: api.StIf, Ex: exprs(a), Else: seals(1)},
		"if a { seal; } else { let x=b;}": {Kind: api.StIf, Ex: exprs(a), Body: seals(1), Else: stmts(let("x", b))},
		"while a { }":                     {Kind: api.StWhile, Ex: exprs(a)},
		"while (a<b) { seal; seal; }":     {Kind: api.StWhile, Ex: exprs(two(api.InSltu, a, b)), Body: seals(2)},
		"for i < a { }":                   {Kind: api.StFor, Name: "i", Ex: exprs(a)},
		"for i < (a<b) { seal; }":         {Kind: api.StFor, Name: "i", Ex: exprs(two(api.InSltu, a, b)), Body: seals(1)},
		"view v = w[a .. b] { }":          {Kind: api.StView, Name: "v", From: "w", Ex: exprs(a, b)},
		"edit v = w[0..#w] { seal; }":     {Kind: api.StView, Name: "v", From: "w", Mut: true, Ex: exprs(num(0), length("w")), Body: seals(1)},
		"view v = v[v[0]..v[1]] { }":      {Kind: api.StView, Name: "v", From: "v", Ex: exprs(byteOf("v", num(0)), byteOf("v", num(1)))},
		"move x = y;":                     {Kind: api.StMove, Name: "x", From: "y"},
		"open x = a;":                     {Kind: api.StOpen, Name: "x", Ex: exprs(a)},
		"call f(;);":                      {Kind: api.StCall, From: "f"},
		"call x = f(;);":                  {Kind: api.StCall, Name: "x", From: "f"},
		"call f(a;);":                     {Kind: api.StCall, From: "f", Ex: exprs(a)},
		"call f(;a);":                     {Kind: api.StCall, From: "f", Args: []string{"a"}},
		"call x = f(a, 1, (a+b); v, w);":  {Kind: api.StCall, Name: "x", From: "f", Ex: exprs(a, num(1), two(api.InAdd, a, b)), Args: []string{"v", "w"}},
		"seal;":                           {Kind: api.StSeal},
	} {
		parses(t, "fn f(){"+s+"};", funcs(api.Func{Name: "f", Body: stmts(want)}))
		parses(t, "fn f ( ) { "+s+" "+s+" } ;", funcs(api.Func{Name: "f", Body: stmts(want, want)}))
		parses(t, "fn f(){while 1 {"+s+"}}=2;", funcs(api.Func{Name: "f", Ret: exprs(num(2)), Body: stmts(api.Stmt{Kind: 6, Ex: exprs(num(1)), Body: stmts(want)})}))
		parses(t, "fn f(){if 1 {"+s+"}else{"+s+"seal;}};", funcs(api.Func{Name: "f", Body: stmts(ifs(stmts(want), stmts(want, seal())))}))
	}
}

// TestParseFuncs (P8.2): functions, their params, and Ret.
func TestParseFuncs(t *testing.T) {
	parses(t, "", api.Prog{})
	parses(t, " \n ", api.Prog{})
	parses(t, "fn f(){};", funcs(api.Func{Name: "f"}))
	parses(t, "fn f(){}=1;", funcs(api.Func{Name: "f", Ret: exprs(num(1))}))
	parses(t, "fn f(){}=secret k;", funcs(api.Func{Name: "f", Sec: true, Ret: exprs(variable("k"))}))
	parses(t, "fn f(){}; fn f(){}=2; fn g(){};", funcs(api.Func{Name: "f"}, api.Func{Name: "f", Ret: exprs(num(2))}, api.Func{Name: "g"}))
	for s, want := range map[string]api.Param{
		"num a":         {Name: "a"},
		"secret a":      {Name: "a", Sec: true},
		"view a":        {Name: "a", Buf: true},
		"view secret a": {Name: "a", Buf: true, Sec: true},
		"edit a":        {Name: "a", Buf: true, Mut: true},
		"edit secret a": {Name: "a", Buf: true, Sec: true, Mut: true},
	} {
		parses(t, "fn f("+s+"){};", funcs(api.Func{Name: "f", Params: []api.Param{want}}))
		parses(t, "fn f("+s+",num b,"+s+"){};", funcs(api.Func{Name: "f", Params: []api.Param{want, {Name: "b"}, want}}))
	}
}

// TestParseElse (P8.2): to which if an else belongs, and that an empty one says nothing, wherever it is.
func TestParseElse(t *testing.T) {
	in := func(s ...api.Stmt) api.Prog { return funcs(api.Func{Name: "f", Body: s}) }
	parses(t, "fn f(){ if 1 { if 1 { } else { seal; } } };", in(ifs(stmts(ifs(nil, seals(1))), nil)))
	parses(t, "fn f(){ if 1 { if 1 { } } else { seal; } };", in(ifs(stmts(ifs(nil, nil)), seals(1))))
	parses(t, "fn f(){ if 1 { } else { if 1 { } else { seal; } } };", in(ifs(nil, stmts(ifs(nil, seals(1))))))
	parses(t, "fn f(){ if 1 { } else { if 1 { } else { } } };", in(ifs(nil, stmts(ifs(nil, nil)))))
	parses(t, "fn f(){ if 1 { } else { } if 1 { } else { } };", in(ifs(nil, nil), ifs(nil, nil)))
	got, err := stmt.Parse("fn f(){ if 1 { } else { } };")
	if err != nil || len(got.Funcs[0].Body[0].Else) != 0 {
		t.Errorf("%+v, %v", got, err)
	}
}

// scattered is s with other blanks between its pieces, as many as it has, or more; where none is needed, none, too.
func (c *chance) scattered(s string) string {
	pieces := strings.Fields(s)
	var b strings.Builder
	for k, p := range pieces {
		if k > 0 {
			l, err := lex.Cut(pieces[k-1] + p)
			needed := err != nil || len(l) != 3 || l[1].At != len(pieces[k-1])
			for n := c.below(3); n > 0 || needed; n, needed = n-1, false {
				b.WriteByte(" \n"[c.below(2)])
			}
		}
		b.WriteString(p)
	}
	return b.String()
}

// TestParseTold (P8.2): scattered programs, told as texts, are read again, whatever blanks stand between.
func TestParseTold(t *testing.T) {
	c, long := chance(1), 0
	for k := range 6000 {
		p := c.prog(1+k%4, 1+k%5)
		s := told(p)
		if len(s) > 8000 {
			long++
			continue
		}
		parses(t, s, p)
		parses(t, c.scattered(s), p)
	}
	if long > 100 {
		t.Errorf("%d were too long", long)
	}
}

// TestParseKinds (P8.2): each kind of statements, scattered.
func TestParseKinds(t *testing.T) {
	c := chance(2)
	for kind := uint8(1); kind <= 12; kind++ {
		for range 200 {
			p := funcs(api.Func{Name: "main", Body: stmts(c.stmt(kind, 3), c.stmt(kind, 2))})
			if s := told(p); len(s) <= api.MaxText {
				parses(t, s, p)
			}
		}
	}
}

// TestParseOwn (P8.2): what was answered is not answered again where it was changed, and no list shares its room with another one.
func TestParseOwn(t *testing.T) {
	s := "fn f(num a, view b) { if a { seal; seal; } else { let x = (a + b[a]); } call f(a, 1; b, b); } = (a + 1); fn g(num a) { seal; };"
	first, err := stmt.Parse(s)
	if err != nil {
		t.Fatal(err)
	}
	want := told(first)
	for k := range first.Funcs {
		f := &first.Funcs[k]
		_ = append(f.Params, api.Param{Name: "bad"})
		_ = append(f.Ret, num(9))
		_ = append(f.Body, let("bad", num(1)))
		for j := range f.Body {
			_ = append(f.Body[j].Ex, num(9))
			_ = append(f.Body[j].Args, "bad")
			_ = append(f.Body[j].Body, let("bad", num(1)))
			_ = append(f.Body[j].Else, let("bad", num(1)))
		}
	}
	_ = append(first.Funcs, api.Func{Name: "bad"})
	if told(first) != want {
		t.Errorf("%s, not %s", told(first), want)
	}
	clear(first.Funcs[0].Body[0].Body)
	clear(first.Funcs[0].Body)
	clear(first.Funcs)
	again, err := stmt.Parse(s)
	if err != nil || told(again) != want {
		t.Errorf("%s, %v", told(again), err)
	}
}

// TestParseSame (R6): the same text, the same answer, to the last list.
func TestParseSame(t *testing.T) {
	c := chance(3)
	for range 200 {
		s := told(c.prog(3, 3))
		first, _ := stmt.Parse(s)
		again, _ := stmt.Parse(s)
		if !reflect.DeepEqual(first, again) {
			t.Errorf("%q is read in two ways", short(s))
		}
	}
}
