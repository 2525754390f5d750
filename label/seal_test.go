package label_test

import (
	"strings"
	"testing"
)

// sealed is f, behind functions to be called, with this body.
func sealed(body string) string {
	return "fn pu(num a, view w) { let secret x = a; } = a; fn se(secret a, view secret w) { } = secret (a + w[0]); fn si() { } = secret 1; fn op(secret k) { open x = k; } = x; " +
		"fn f(num n, view v, view secret vs, edit secret es) { buf secret bs[n]; " + body + " };"
}

// TestSeals (P12.1): a seal is refused just where a number is known that is secret.
func TestSeals(t *testing.T) {
	secrets := []string{"let secret x = n;", "let secret x = vs[0];", "let secret x = #vs;", "call x = si(;);", "call x = se(n; vs);", "call x = se(vs[n]; es);", "let secret x = n; x = 0;", "let y0 = n; let secret x = y0; open z = x;"}
	others := []string{"let x = n;", "open x = vs[n];", "open x = (es[0] + bs[n]);", "call x = pu(n; v);", "call x = op(vs[n];);", "call si(;);", "call se(vs[n]; es);", "buf secret x[n];", "move x = bs;", "move y0 = bs; move x = y0;",
		"es[n] = vs[n];", "for x < n { }", "if n { let secret x = n; }", "if n { } else { call x = si(;); }", "view x = vs[0 .. n] { }", "view x = es[0 .. n] { let secret y0 = x[0]; }", "while n { let secret x = 1; }"}
	known := []string{"GIVE ~seal;", "GIVE ~seal; seal;", "GIVE let y = n; y = 1; ~seal;", "GIVE if n { ~seal; }", "GIVE if n { } else { ~seal; }", "GIVE while n { for i < n { ~seal; } }", "GIVE view w = v[0 .. n] { edit w1 = es[0 .. n] { ~seal; } }",
		"if n { GIVE ~seal; }", "if n { } else { GIVE ~seal; }", "if n { GIVE if n { let y = n; } else { } ~seal; }", "while n { GIVE ~seal; }", "while n { seal; GIVE let y = n; ~seal; }", "for i < n { GIVE if i { ~seal; } }",
		"view w = vs[0 .. n] { GIVE ~seal; }", "edit w = es[0 .. n] { GIVE w[0] = n; ~seal; }", "seal; if n { seal; } GIVE ~seal;", "if n { if n { GIVE ~seal; } }", "for i < n { while i { GIVE view w = v[i .. n] { if w[0] { } else { ~seal; } } } }"}
	behind := []string{"seal; GIVE", "seal; seal; GIVE", "if n { seal; } GIVE", "if n { GIVE } seal;", "if n { } else { GIVE } seal;", "if n { GIVE } else { seal; }", "while n { seal; GIVE }", "while n { GIVE } seal;", "for i < n { GIVE } seal;", "for i < n { seal; GIVE } seal;",
		"view w = v[0 .. n] { GIVE } seal;", "edit w = es[0 .. n] { seal; GIVE } seal;", "for i < n { while n { GIVE } seal; } seal;", "if n { if n { GIVE } else { seal; } seal; } else { seal; } seal;", "if n { if n { seal; GIVE } } else { seal; }"}
	for _, give := range secrets {
		for _, s := range known {
			refused(t, sealed(strings.Replace(s, "GIVE", give, 1)))
		}
		for _, s := range behind {
			letBe(t, sealed(strings.Replace(s, "GIVE", give, 1)))
			refused(t, sealed("let secret y1 = n; "+strings.Replace(strings.Replace(s, "GIVE", give, 1), "seal;", "~seal;", 1)))
			refused(t, sealed(strings.Replace(s, "GIVE", give, 1)+" let secret y1 = n; ~seal;"))
			refused(t, sealed(strings.Replace(s, "GIVE", give, 1)+" if n { call y1 = si(;); ~seal; }"))
		}
	}
	for _, give := range others {
		for _, s := range append(known, behind...) {
			letBe(t, sealed(strings.Replace(s, "GIVE", give, 1)))
		}
	}
}

// TestSealedParams (P12.1): params are known in all of the function that the seal is in, and in no other one; buffers are no numbers.
func TestSealedParams(t *testing.T) {
	for params, is := range map[string]bool{
		"": true, "num a": true, "view a": true, "view secret a": true, "edit secret a": true, "num a, edit b, view secret c, edit secret d": true,
		"secret a": false, "num a, secret b": false, "secret a, num b": false, "view secret a, secret b, num c": false, "secret a, secret b": false,
	} {
		for _, s := range []string{"~seal;", "let x = 1; x = 2; ~seal;", "if 1 { ~seal; }", "if 1 { } else { ~seal; }", "for i < 2 { if i { let x = 1; } ~seal; }", "while 1 { } ~seal; seal;", "if 1 { let secret y = 1; } ~seal;"} {
			asked(t, "fn f("+params+") { "+s+" };", is)
			asked(t, "fn e(secret a, secret b) { let secret x = a; } = secret b; fn f("+params+") { "+s+" };", is)
			asked(t, "fn e("+params+") { let secret x = 1; }; fn f(num n) { "+s+" };", true)
		}
	}
}
