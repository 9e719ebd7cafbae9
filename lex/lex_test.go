package lex

import (
	"strings"
	"testing"

	"spokeshave/api"
)

func texts(toks []api.Token) string {
	var out []string
	for _, k := range toks {
		out = append(out, k.Text)
	}
	return strings.Join(out, " ")
}

func TestTokens(t *testing.T) { // P2.1
	toks, w := Tokens("a<<=0x1Ful")
	if w != (api.Wrong{}) || len(toks) != 3 || toks[2] != (api.Token{Kind: api.TokNum, At: 4, Text: "0x1Ful", Suffix: "ul", Num: 31, Hex: true}) {
		t.Errorf("P2.1: %v %v", toks, w)
	}
	for in, want := range map[string]string{
		"a+++b--c->d...e": "a + + + b - - c -> d . . . e", "a>>=b>>c>=d": "a >>= b >> c >= d",
		"x/*y*/z//w\nv//u\rt": "x z v t", "/**/": "", "/*/ */a": "a", "a&&&b||c|=d": "a && & b || c |= d", "1/ /2": "1 / / 2",
		"!==": "!= =", "int Int _9 9": "int Int _9 9", "0 0u 10l": "0 0u 10l", "'a''\\n''\\0''\\\\''\\'''\"'": "'a' '\\n' '\\0' '\\\\' '\\'' '\"'",
		"<<<=>": "<< <= >", "a\t\r\nb": "a b", "~(a)[b]{c},;:?": "~ ( a ) [ b ] { c } , ; : ?",
	} {
		toks, w := Tokens(in)
		if w != (api.Wrong{}) || texts(toks) != want {
			t.Errorf("P2.1: %q: %q, %v", in, texts(toks), w)
		}
	}
	toks, _ = Tokens("int x '\\n' 'a' 18446744073709551615")
	kinds := []int{api.TokWord, api.TokName, api.TokChar, api.TokChar, api.TokNum}
	nums := []uint64{0, 0, 10, 97, 1<<64 - 1}
	for i, k := range toks {
		if k.Kind != kinds[i] || k.Num != nums[i] || k.Hex || k.Suffix != "" {
			t.Errorf("P2.1: %v", k)
		}
	}
}

func TestWrong(t *testing.T) { // P2.1
	name := strings.Repeat("n", api.MaxName)
	for in, want := range map[string]api.Wrong{
		"a $": {Code: api.ErrChar, At: 2}, "a /* b": {Code: api.ErrChar, At: 2}, "/*/": {Code: api.ErrChar}, "''": {Code: api.ErrChar},
		"'ab'": {Code: api.ErrChar}, "'\\t'": {Code: api.ErrChar}, "'": {Code: api.ErrChar}, "'\\'": {Code: api.ErrChar}, "'\x7f'": {Code: api.ErrChar},
		"1x": {Code: api.ErrChar}, "01": {Code: api.ErrChar}, "0x": {Code: api.ErrChar}, "0xg": {Code: api.ErrChar}, "0X1": {Code: api.ErrChar},
		"1lu": {Code: api.ErrChar}, "1U": {Code: api.ErrChar}, "1ull": {Code: api.ErrChar}, "99999999999999999999x": {Code: api.ErrChar},
		" 18446744073709551616": {Code: api.ErrLong, At: 1}, "0x10000000000000000": {Code: api.ErrLong}, "a\x00": {Code: api.ErrChar, At: 1}, "\x80": {Code: api.ErrChar},
		"1 " + name + "n": {Code: api.ErrLong, At: 2}, name: {}, "0xffffffffffffffff": {}, "a \"": {Code: api.ErrChar, At: 2}, "18446744073709551616 $": {Code: api.ErrLong},
		strings.Repeat(";", api.MaxTokens): {}, strings.Repeat(";", api.MaxTokens) + " ;": {Code: api.ErrLong, At: api.MaxTokens + 1}, strings.Repeat(";", api.MaxTokens) + "$": {Code: api.ErrChar, At: api.MaxTokens},
		strings.Repeat(" ", api.MaxSource): {}, "$" + strings.Repeat(" ", api.MaxSource): {Code: api.ErrLong},
	} {
		toks, w := Tokens(in)
		if w != want || w.Code != api.OK && toks != nil {
			t.Errorf("P2.1: %.40q: %v, %d tokens", in, w, len(toks))
		}
	}
}

func TestWord(t *testing.T) { // P2.1
	for _, s := range strings.Fields("void char short int long unsigned struct typedef if else while do for switch case default break continue return goto sizeof") {
		if !Word(s) {
			t.Errorf("P2.1: %s", s)
		}
	}
	for _, s := range []string{"", "Int", "signed", "int ", "enum", "main"} {
		if Word(s) {
			t.Errorf("P2.1: %q", s)
		}
	}
}
