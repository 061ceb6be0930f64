package token_test

import (
	"math"
	"slices"
	"strings"
	"testing"

	"trommel/api"
	"trommel/token"
)

// P7.1
func TestBlank(t *testing.T) {
	for c := range 256 {
		if token.Blank(byte(c)) != strings.Contains(" \t\n\r", string([]byte{byte(c)})) {
			t.Error(c)
		}
	}
}

// P7.1
func TestSign(t *testing.T) {
	for _, s := range strings.Fields("( ) , . * + - = <> < <= > >=") {
		for _, behind := range []string{"", "x", " ", "(", "<", "\xff"} {
			if got := token.Sign("a"+s+behind, 1); got != s {
				t.Errorf("%q %q: %q", s, behind, got)
			}
		}
	}
	for _, c := range []struct {
		s, want string
	}{
		{"<=>", "<="}, {"<>=", "<>"}, {">==", ">="}, {"=<", "="}, {"==", "="}, {"><", ">"}, {"<<", "<"},
		{"!", ""}, {"/", ""}, {"'", ""}, {"a", ""}, {"1", ""}, {" =", ""}, {"", ""}, {"é", ""}, {";", ""},
	} {
		if got := token.Sign(c.s, 0); got != c.want {
			t.Errorf("%q: %q", c.s, got)
		}
	}
	for _, at := range []int{-1, 2, 3, math.MinInt, math.MaxInt} {
		if got := token.Sign("<=", at); got != "" {
			t.Error(at, got)
		}
	}
	if got := token.Sign("<=", 1); got != "=" {
		t.Error(got)
	}
}

// P7.1
func TestQuote(t *testing.T) {
	for s, want := range map[string]string{"": "''", "a": "'a'", "it's": "'it''s'", "''": "''''''", "\xff'": "'\xff'''"} {
		if got := token.Quote(s); got != want {
			t.Errorf("%q: %q", s, got)
		}
	}
}

func long(n int) string { return strings.Repeat("a", n) }

// P7.2
func TestOne(t *testing.T) {
	for _, c := range []struct {
		s    string
		at   int
		tok  api.Tok
		next int
	}{
		{"", 0, api.Tok{}, 0},
		{" \t\r\n", 0, api.Tok{At: 4}, 4},
		{"  ab", 1, api.Tok{Kind: api.TokName, Text: "ab", At: 2}, 4},
		{"ab", 1, api.Tok{Kind: api.TokName, Text: "b", At: 1}, 2},
		{"ab", 9, api.Tok{At: 2}, 2},
		{"ab", math.MaxInt, api.Tok{At: 2}, 2},
		{"ab", -5, api.Tok{Kind: api.TokName, Text: "ab"}, 2},
		{"_a9_B", 0, api.Tok{Kind: api.TokName, Text: "_a9_"}, 4},
		{"zz'", 0, api.Tok{Kind: api.TokName, Text: "zz"}, 2},
		{"join ", 0, api.Tok{Kind: api.TokWord, Text: "join"}, 4},
		{"joins", 0, api.Tok{Kind: api.TokName, Text: "joins"}, 5},
		{long(32) + "-", 0, api.Tok{Kind: api.TokName, Text: long(32)}, 32},
		{"007.", 0, api.Tok{Kind: api.TokInt, Text: "007", Int: 7}, 3},
		{"9223372036854775807", 0, api.Tok{Kind: api.TokInt, Text: "9223372036854775807", Int: math.MaxInt}, 19},
		{"1A", 0, api.Tok{Kind: api.TokInt, Text: "1", Int: 1}, 1},
		{strings.Repeat("0", 50) + "12 ", 0, api.Tok{Kind: api.TokInt, Text: strings.Repeat("0", 50) + "12", Int: 12}, 52},
		{"1<=2", 1, api.Tok{Kind: api.TokSign, Text: "<=", At: 1}, 3},
		{"''", 0, api.Tok{Kind: api.TokText}, 2},
		{" 'a'b", 0, api.Tok{Kind: api.TokText, Text: "a", At: 1}, 4},
		{"''x'", 0, api.Tok{Kind: api.TokText}, 2},
		{"''' x'' '", 0, api.Tok{Kind: api.TokText, Text: "' x' "}, 9},
		{"'a''b'", 0, api.Tok{Kind: api.TokText, Text: "a'b"}, 6},
		{"''''", 0, api.Tok{Kind: api.TokText, Text: "'"}, 4},
		{"'''''' '", 0, api.Tok{Kind: api.TokText, Text: "''"}, 6},
		{"'a' 'b'", 0, api.Tok{Kind: api.TokText, Text: "a"}, 3},
		{"'é\xff\n'", 0, api.Tok{Kind: api.TokText, Text: "é\xff\n"}, 6},
		{"'" + long(api.MaxText) + "'", 0, api.Tok{Kind: api.TokText, Text: long(api.MaxText)}, api.MaxText + 2},
		{"'" + strings.Repeat("''", api.MaxText) + "'", 0, api.Tok{Kind: api.TokText, Text: strings.Repeat("'", api.MaxText)}, 2*api.MaxText + 2},
	} {
		tok, next, e := token.One(c.s, c.at)
		if tok != c.tok || next != c.next || e != api.OK {
			t.Errorf("%.30q %d: %.30v %d %d", c.s, c.at, tok, next, e)
		}
	}
}

// P7.2: errors.
func TestOneWrong(t *testing.T) {
	for _, c := range []struct {
		s  string
		at int
		e  api.Errno
	}{
		{" " + long(33), 0, api.ErrSyntax},
		{"9223372036854775808", 0, api.ErrSyntax},
		{"99999999999999999999999", 0, api.ErrSyntax},
		{"1a", 0, api.ErrSyntax},
		{"1_", 0, api.ErrSyntax},
		{"0select", 0, api.ErrSyntax},
		{"'", 0, api.ErrSyntax},
		{"'a", 0, api.ErrSyntax},
		{"'a''", 0, api.ErrSyntax},
		{"'''", 0, api.ErrSyntax},
		{"'" + long(api.MaxText+1), 0, api.ErrSyntax},
		{"'" + long(api.MaxText+1) + "'", 0, api.ErrLimit},
		{"A", 0, api.ErrSyntax},
		{"é", 0, api.ErrSyntax},
		{"a  !", 1, api.ErrSyntax},
		{"\x00", 0, api.ErrSyntax},
		{"\v", 0, api.ErrSyntax},
		{"\xff", -3, api.ErrSyntax},
		{"/", 0, api.ErrSyntax},
		{"a;", 1, api.ErrSyntax},
	} {
		tok, next, e := token.One(c.s, c.at)
		if tok != (api.Tok{}) || next != max(0, c.at) || e != c.e {
			t.Errorf("%.30q: %v %d %d", c.s, tok, next, e)
		}
	}
}

// P7.3
func TestAll(t *testing.T) {
	got, e := token.All("a.x<=10 ")
	want := []api.Tok{
		{Kind: api.TokName, Text: "a"},
		{Kind: api.TokSign, Text: ".", At: 1},
		{Kind: api.TokName, Text: "x", At: 2},
		{Kind: api.TokSign, Text: "<=", At: 3},
		{Kind: api.TokInt, Text: "10", Int: 10, At: 5},
		{Kind: api.TokEnd, At: 8},
	}
	if e != api.OK || !slices.Equal(got, want) {
		t.Error(got, e)
	}
	got, e = token.All("")
	if e != api.OK || !slices.Equal(got, []api.Tok{{}}) {
		t.Error(got, e)
	}
}

// P7.3: the first error, and the limit.
func TestAllWrong(t *testing.T) {
	most := strings.Repeat("a ", api.MaxToks-1)
	if got, e := token.All(most); e != api.OK || len(got) != api.MaxToks {
		t.Error(len(got), e)
	}
	for s, want := range map[string]api.Errno{
		most + "a":                  api.ErrLimit,
		most + "!":                  api.ErrSyntax,
		most + "a !":                api.ErrLimit,
		most[2:] + "!":              api.ErrSyntax,
		"! " + most + "a":           api.ErrSyntax,
		"a ! '":                     api.ErrSyntax,
		"'" + long(1<<16+1) + "' !": api.ErrLimit,
		"! '" + long(1<<16+1) + "'": api.ErrSyntax,
	} {
		if got, e := token.All(s); e != want || len(got) != 0 {
			t.Errorf("%.20q %d %d", s, len(got), e)
		}
	}
}

// P7.4
func TestQuoteIsOneToken(t *testing.T) {
	for _, s := range []string{"", "'", "''", "a'b''c'", "x", "\x00\xff'\xfe", "é'", "'" + long(api.MaxText-1)} {
		got, e := token.All("  " + token.Quote(s) + "\n")
		if e != api.OK || len(got) != 2 || got[0] != (api.Tok{Kind: api.TokText, Text: s, At: 2}) {
			t.Errorf("%.20q %d", s, e)
		}
	}
}

// P7.4
func TestBlanksPlayNoPart(t *testing.T) {
	parts := strings.Fields("select a . x , 'b''c' from t where x >= 12 + ( y - 3 ) * z <> 4")
	plain, _ := token.All(strings.Join(parts, " "))
	for _, between := range []string{"  ", "\t", "\n\r ", "\r\n"} {
		got, e := token.All(between + strings.Join(parts, between))
		if e != api.OK || len(got) != len(plain) {
			t.Fatal(got, e)
		}
		for i := range got {
			got[i].At = plain[i].At
		}
		if !slices.Equal(got, plain) {
			t.Errorf("%q", between)
		}
	}
}
