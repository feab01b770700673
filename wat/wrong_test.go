package wat

import (
	"slices"
	"strings"
	"testing"

	"mortise/api"
)

// P13.2: tokens end at parentheses, at quotes, at blanks and at line feeds, however many of these there are.
func TestBlanks(t *testing.T) {
	want := alone("drop | block, const t1 n7")
	text := one("block drop end i32.const 7")
	for _, s := range []string{
		text, text + "\n", " " + text, "\n\n " + text + " \n \n", strings.ReplaceAll(text, " ", "\n"), strings.ReplaceAll(text, " ", "   \n "),
		strings.NewReplacer("( ", "(", " )", ")").Replace(text),
		strings.NewReplacer("( ", "(", " )", ")", ") (", ")(").Replace(text),
		`(module(import"env""in"(func(result i64)))(import"env""out"(func(param i64)))(import"env""trap"(func(param i32)))(memory 1)(global i32(i32.const 16))(func $f(result i32)block drop end i32.const 7)(export"main"(func 3)))`,
	} {
		parses(t, s, want)
	}
}

// P13.2: other bytes that look like blanks, and remarks, are none.
func TestOtherBytes(t *testing.T) {
	text := one("block drop end i32.const 7")
	for _, s := range []string{"\t", "\r", "\v", "\f", "\x00", "\u00a0", "\u0085", "\ufeff", "\xff", ";", ";; x\n", "(;x;)", "//\n", ","} {
		for at, b := range text {
			if b == ' ' || at == 0 {
				refuses(t, api.ErrForm, text[:at]+s+text[at:])
			}
			if b == ' ' {
				refuses(t, api.ErrForm, text[:at]+s+text[at+1:])
			}
		}
		refuses(t, api.ErrForm, text+s)
	}
}

// P13.2: a quote without its end is no token, wherever it stands.
func TestQuotes(t *testing.T) {
	text := one("drop")
	refuses(t, api.ErrForm,
		`"`, `""`, `"`+text, text+`"`, text+` "`, text+` ""`, text+"\"\n", text+` "x`,
		strings.Replace(text, `"env" "in"`, `"env" in`, 1), strings.Replace(text, `"env" "in"`, `env "in"`, 1),
		strings.Replace(text, `"env" "in"`, `"env "in"`, 1), strings.Replace(text, `"env" "in"`, `"env" "in`, 1), strings.Replace(text, `"env" "in"`, `"env" in"`, 1),
		strings.Replace(text, `"env" "in"`, "\"env\n\" \"in\"", 1), strings.Replace(text, `"env" "in"`, `"env " "in"`, 1), strings.Replace(text, `"env" "in"`, `"" "env" "in"`, 1),
		strings.Replace(text, `"env" "in"`, `"env in"`, 1), strings.Replace(text, `"env"`, `'env'`, 1), strings.Replace(text, `"main"`, `"maim"`, 1), strings.Replace(text, `"main"`, `"\6dain"`, 1),
		strings.Replace(text, "module", `"module"`, 1), strings.Replace(text, "drop", `"drop"`, 1), strings.Replace(text, "( memory", `"(" memory`, 1),
	)
}

// P13.2: no token may be missing, stand twice, or be another one.
func TestEachToken(t *testing.T) {
	tokens := strings.Fields(around("( func $f ( param i64 i32 ) ( result i32 ) ( local i64 ) block br 0 end if drop else loop unreachable end end local.get 1 )"))
	if _, no := Parse(strings.Join(tokens, " ")); no != api.OK {
		t.Fatal(no)
	}
	for k := range tokens {
		refuses(t, api.ErrForm, strings.Join(tokens[:k], " "), strings.Join(tokens[:k], " ")+` "`)
		if !mayBeLeftOut(tokens[k]) {
			refuses(t, api.ErrForm, strings.Join(slices.Delete(slices.Clone(tokens), k, k+1), " "))
			refuses(t, api.ErrForm, strings.Join(slices.Insert(slices.Clone(tokens), k, tokens[k]), " "))
		}
		for _, other := range []string{"(", ")", "x", `"x"`, "i32", "$", "-", "end;"} {
			if other != tokens[k] && !(mayBeLeftOut(tokens[k]) && other == "i32") {
				refuses(t, api.ErrForm, strings.Join(slices.Replace(slices.Clone(tokens), k, k+1, other), " "))
			}
		}
	}
}

// mayBeLeftOut tells whether what is left without a token is a module, too, or whether it may stand twice.
func mayBeLeftOut(token string) bool {
	return token == "drop" || token == "unreachable" || token == "else" || token == "i64" || token == "i32"
}

// P13.2: heads of functions that are none.
func TestHeads(t *testing.T) {
	for _, head := range []string{
		"( param )", "( result )", "( local )", "( )", "(", ")", "( param i32", "( result i32", "( local i32", "( param ( result i32 ) )",
		"( param i32 ) ( param i32 )", "( result i32 ) ( result i32 )", "( local i32 ) ( local i32 )", "( result i32 i32 )", "( result void )", "( result )",
		"( result i32 ) ( param i32 )", "( local i32 ) ( param i32 )", "( local i32 ) ( result i32 )", "( local i32 ) ( result i32 ) ( param i32 )",
		"( param i8 )", "( param f32 )", "( param i32 i )", "( param int )", "( param 1 )", "( param $x i32 )", "( param i32i64 )", "( param i32,i64 )", "( local void )", "( local char )",
		"param i32", "( params i32 )", "( func $g )", "( export \"f\" )", "drop ( local i32 )", "( drop )", "( PARAM i32 )", "( param I32 )", "( param i 32 )",
	} {
		refuses(t, api.ErrForm, around("( func $f "+head+" unreachable )"))
	}
	refuses(t, api.ErrForm, around("( func ( result i32 ) unreachable )"), around("( func )"), around("( $f )"), around("( function $f )"), around("func $f )"), around("( )"), around("()"))
}

// P13.2: words that are none of an instruction.
func TestWords(t *testing.T) {
	for _, word := range []string{
		"i32.cons", "i32.const7", "i32const", "i32.", ".add", "i32", "add", "i32.add_", "i32.Add", "I32.add", "i32.add.", "i32..add", "i33.add", "i8.add", "f32.add", "i32.add\t", "i32 .add", "i32. add",
		"i32.div", "i32.div_u", "i32.rem_u", "i32.shr_u", "i32.lt", "i32.lt_u", "i32.rotl", "i32.clz", "i32.+", "i32.nez", "i32.foo", "i32.eqz_", "eqz", "i64.wrap_i64", "i32.wrap_i32", "i32.wrap", "i64.extend_i32_u", "i32.extend_i32_s", "i32.extend8_s",
		"i32.load8_u", "i32.load8", "i32.load4", "i32.load16_s", "i64.load8_s", "i64.load8", "i64.load32_s", "i64.store8", "i32.store8_s", "i32.store4", "i64.store32", "i32.load()", "i32.load offset=0", "load", "store", ".load",
		"local.tee", "local.get0", "local", "get", "global.get", "call_indirect", "br_table", "br_on", "brif", "br-if", "select", "nop", "memory.size", "then", "else", "end", "trap", "unreachable2", "RETURN", "Return", "drop;", "0", "-1", "7", "$f", "module", "func", "param",
		"(", ")", "( drop )", "( block )", "()", "\"\"", `"drop"`, "const", "bin", "blocks", "loop0", "if(", "\x00", "\xff", "é",
	} {
		refuses(t, api.ErrForm, one(word), one("drop "+word), one("block "+word+" end"), one("if else "+word+" end"))
	}
	for _, body := range []string{
		"block", "loop", "if", "if else", "block else end", "loop else end", "end", "else", "else end", "block end end", "if end end", "if end else", "if else else end", "if else end else end", "if else end end", "block if end",
		"block ) end", "block ( result i32 ) end", "block $l end", "if ( then drop )", "if then end", "local.get", "local.get )", "i32.const", "i32.const end", "call $f", "br $l", "br", "br_if block end", "drop 0", "return 0", "block 0 end", "i32.eqz 0", "i32.load 0",
	} {
		refuses(t, api.ErrForm, one(body))
	}
}

// P13.2: nothing stands ahead of a module, or behind it; and it is whole.
func TestWholeTexts(t *testing.T) {
	text := one("drop")
	refuses(t, api.ErrForm, "", " ", "\n", "(", ")", "( module )", "()", "module", "( module", text+text, text+" "+text, text+")", text+" x", text+" 0", "x "+text, "( "+text+" )", text[1:], text[:len(text)-1], text[:len(text)-3],
		strings.Replace(text, "( memory 1 )", "", 1), strings.Replace(text, "memory 1", "memory 2", 1), strings.Replace(text, "memory 1", "memory 01", 1), strings.Replace(text, "memory 1", "memory -1", 1), strings.Replace(text, "memory 1", "memory 1 1", 1),
		strings.Replace(text, "global i32", "global i64", 1), strings.Replace(text, "( i32.const 16", "( i64.const 16", 1), strings.Replace(text, "global i32", "global $g i32", 1), strings.Replace(text, "global i32", "global ( mut i32 )", 1),
		strings.Replace(text, "( result i64 )", "( result i32 )", 1), strings.Replace(text, "( param i64 )", "( param i32 )", 1), strings.Replace(text, "( param i32 )", "( param i64 )", 1),
		strings.Replace(text, `"in"`, `"out"`, 1), strings.Replace(text, `"out"`, `"in"`, 1), strings.Replace(text, `"trap"`, `"out"`, 1), strings.Replace(text, `"env"`, `"Env"`, 1),
		strings.Replace(text, "func 3", "func $f", 1), strings.Replace(text, "func 3", "func", 1), strings.Replace(text, "func 3", "func 3 3", 1),
		around(`( func $f ) ( export "main" ( func 3 ) )`), around(`( export "f" ( func 3 ) )`), ahead+behind[:len(behind)-1]+"( func $f ) )", ahead+"( func $f ) )", ahead+")",
	)
}

// P13.2: of several errors the first one in the text.
func TestFirstError(t *testing.T) {
	const form, number = api.ErrForm, api.ErrRange
	for _, x := range []struct {
		body string
		no   api.Errno
	}{
		{"i32.const 01 i32.cons 7", number}, {"i32.cons 7 i32.const 01", form}, {"i32.const x i32.const 01", form}, {"i32.const 01 i32.const x", number},
		{"block br 00", number}, {"block br 0 )", form}, {"br 00 end", number}, {"end br 00", form}, {"else br -0", form}, {"br -0 else", number}, {`br 01 "`, number}, {`" br 01`, form}, {`br "01"`, form},
		{strings.Repeat("block ", 401), api.ErrDeep}, {strings.Repeat("loop ", 400) + "block \"", api.ErrDeep}, {strings.Repeat("if ", 400) + "x block", form},
		{strings.Repeat("block ", 400) + "br 00 block", number}, {strings.Repeat("block ", 400) + "block br 00", api.ErrDeep}, {strings.Repeat("block ", 400) + "blocks", form}, {strings.Repeat("block ", 400) + "else", form},
		{strings.Repeat("block ", 400) + strings.Repeat("end ", 401), form}, {"br 99999999999999999999 " + strings.Repeat("block ", 401), number}, {"x " + strings.Repeat("block ", 401), form},
	} {
		refuses(t, x.no, one(x.body))
	}
	memory := func(n string) string { return strings.Replace(one("br 00"), "16", n, 1) }
	refuses(t, number, memory("16"), memory("016"))
	refuses(t, form, memory("x"), strings.Replace(memory("016"), "memory", "memori", 1), strings.Replace(memory("16"), "$f", "$F", 1), strings.Replace(memory("16"), "( result i32 )", "( result x )", 1))
	refuses(t, number, strings.Replace(one("drop"), "func 3", "func 03", 1)+" x", strings.Replace(one("drop"), "func 3 )", "func 03 x", 1), strings.Replace(one("br 00"), "func 3", "func x", 1))
	refuses(t, form, strings.Replace(one("x"), "func 3", "func 03", 1))
}
