package scan_test

import (
	"math/rand"
	"slices"
	"strings"
	"testing"
	"unicode/utf8"

	"sluicegate/api"
	"sluicegate/scan"
)

// wantAll asks for words with their places.
func wantAll(t *testing.T, s string, want ...api.Word) {
	t.Helper()
	if got, f := scan.All(s); !slices.Equal(got, want) || f != (api.Fault{}) {
		t.Errorf("All of %s: %s, %v, want %s", brief(s), brief(got), f, brief(want))
	}
}

// wantWords asks for words, wherever they are.
func wantWords(t *testing.T, s string, want ...api.Word) {
	t.Helper()
	if got, f := scan.All(s); !slices.Equal(unplaced(got), want) || f != (api.Fault{}) {
		t.Errorf("All of %s: %s, %v, want %s", brief(s), brief(got), f, brief(want))
	}
}

// wantFault asks All for a fault, and Split for the same one.
func wantFault(t *testing.T, s string, e api.Errno, at int) {
	t.Helper()
	want := api.Fault{Err: e, At: at}
	if got, f := scan.All(s); len(got) != 0 || f != want {
		t.Errorf("All of %s: %s, %v, want %v", brief(s), brief(got), f, want)
	}
	if got, f := scan.Split(s); len(got) != 0 || f != want {
		t.Errorf("Split of %s: %s, %v, want %v", brief(s), brief(got), f, want)
	}
}

// wantPlain asks that a text is cut as the chapter cuts it.
func wantPlain(t *testing.T, s string) {
	t.Helper()
	want, wantF := plainAll(s)
	if got, f := scan.All(s); !slices.Equal(got, want) || f != wantF {
		t.Errorf("All of %s: %s, %v, want %s, %v", brief(s), brief(got), f, brief(want), wantF)
	}
	pieces, wantF := plainSplit(s)
	wantSplit(t, s, wantF, pieces...)
}

func wantSplit(t *testing.T, s string, wantF api.Fault, want ...string) {
	t.Helper()
	if got, f := scan.Split(s); !slices.Equal(got, want) || f != wantF {
		t.Errorf("Split of %s: %s, %v, want %s, %v", brief(s), brief(got), f, brief(want), wantF)
	}
}

func wantPlainly(t *testing.T, l []api.Word, want string) {
	t.Helper()
	if got := scan.Plain(l); got != want {
		t.Errorf("Plain of %s: %s, want %s", brief(l), brief(got), brief(want))
	}
}

func TestExamples(t *testing.T) {
	wantAll(t, "SELECT `a`,'it''s' -- x", placed(api.WordName, "select", 0), placed(api.WordQuoted, "a", 7), placed(api.WordSign, ",", 10), placed(api.WordText, "it's", 11))
	wantWords(t, "@x:=@@Session.y; 1a 0x1F 1.5e-3 .5", user("x"), sign(":="), system("session.y"), sign(";"), name("1a"), number("0x1F"), number("1.5e-3"), number(".5"))
	wantAll(t, "/*!40000 x*/", odd("/*!40000 x*/"))
	wantFault(t, "/* x", api.ErrQuote, 0)
	wantFault(t, "'a", api.ErrQuote, 0)
	wantFault(t, "\xff", api.ErrByte, 0)
	wantFault(t, "@", api.ErrByte, 0)
	wantFault(t, "\x00", api.ErrByte, 0)
	wantSplit(t, "a; ;b-- c", api.Fault{}, "a", "b-- c")
	wantSplit(t, "--;", api.Fault{}, "--")
	if got := scan.Quote("it's"); got != "'it''s'" {
		t.Errorf("Quote: %s", got)
	}
}

func TestP19_1Nothing(t *testing.T) {
	for _, s := range list("", " ", "\t\n\v\f\r ", "#", "# x", "#\n", "-- ", "--\n", "-- x\n# y\n", "/**/", "/* x */", "/***/", "/*/*/") {
		wantAll(t, s)
		wantSplit(t, s, api.Fault{})
	}
}

// TestP19_1Long has as many bytes as may be, and one more, which is told ahead of all that is wrong in them.
func TestP19_1Long(t *testing.T) {
	const most = 1 << 20
	wantAll(t, strings.Repeat(" ", most-1)+"a", placed(api.WordName, "a", most-1))
	wantAll(t, strings.Repeat("A", most), name(strings.Repeat("a", most)))
	wantFault(t, strings.Repeat(" ", most-1)+"@", api.ErrByte, most-1)
	wantFault(t, "'"+strings.Repeat("a", most-1), api.ErrQuote, 0)
	for _, s := range list(" ", "a", "@", "'", "\xff", "/*", "é", "\x00") {
		wantFault(t, (s + strings.Repeat(" ", most+1))[:most+1], api.ErrLong, -1)
		wantFault(t, strings.Repeat(s, most+1), api.ErrLong, -1)
	}
	wantFault(t, strings.Repeat("a", 5*most), api.ErrLong, -1)
}

// TestP19_1EachByte has each byte alone, between blanks, between names, and behind what it may go on with.
func TestP19_1EachByte(t *testing.T) {
	for x := range 256 {
		c := string([]byte{byte(x)})
		for _, s := range list(c, " "+c+" ", "a"+c+"b", c+c, c+" "+c) {
			wantPlain(t, s)
		}
		for _, head := range list("0x", "0x1", "1", "1.", ".", "1e", "1e+", "1.5E", "1.5e-", "@", "@@", "@@a", "-", "--", "/", "/*", "<", ":", "->", "'", "`") {
			for _, behind := range list("", "1", "a", " ", "*/", "'", "`") {
				wantPlain(t, head+c+behind)
			}
		}
	}
	for _, c := range bytesOf("\x09\x0a\x0b\x0c\x0d\x20") {
		wantAll(t, c)
		wantAll(t, "a"+c+c+"1", placed(api.WordName, "a", 0), placed(api.WordNumber, "1", 3))
	}
	for _, c := range bytesOf("\x00\x01\x08\x0e\x1f\x7f\\\x80\xbf\xc0\xff") {
		wantFault(t, c, api.ErrByte, 0)
		wantFault(t, " a "+c+" ", api.ErrByte, 3)
		wantFault(t, "a"+c, api.ErrByte, 1)
		wantFault(t, "12"+c, api.ErrByte, 2)
	}
}

// TestP19_1EachRune has each rune that is valid: all from 128 on are letters.
func TestP19_1EachRune(t *testing.T) {
	for r := rune(128); r <= utf8.MaxRune; r++ {
		if !utf8.ValidRune(r) {
			continue
		}
		s := string(r)
		if l, f := scan.All(s); len(l) != 1 || l[0] != name(s) || f != (api.Fault{}) {
			t.Fatalf("All of %U: %s, %v", r, brief(l), f)
		}
	}
	for _, s := range list("\u0080", "\u00a0", "é", "É", "\u0130", "\u212a", "\u2028", "٣", "\ufeff", "\ufffd", "\U0010ffff") {
		wantAll(t, s+"A1", name(s+"a1"))
		wantAll(t, "1"+s, name("1"+s))
		wantAll(t, "@"+s, user(s))
		wantAll(t, "@@"+s+"."+s, system(s+"."+s))
	}
}

// TestP19_1WrongRunes begin no word, wherever they stand, but may stand between quotes and in remarks.
func TestP19_1WrongRunes(t *testing.T) {
	for _, s := range list("\x80", "\xbf", "\xc3", "\xc0\x80", "\xe2\x82", "\xed\xa0\x80", "\xef\xbf", "\xf0\x9f\x98", "\xf4\x90\x80\x80", "\xf5", "\xff", "\xfe\xff") {
		wantFault(t, s, api.ErrByte, 0)
		wantFault(t, s+"a", api.ErrByte, 0)
		wantFault(t, "a"+s, api.ErrByte, 1)
		wantFault(t, "é"+s, api.ErrByte, 2)
		wantFault(t, "\ufffd"+s, api.ErrByte, 3)
		wantFault(t, "1"+s+"a", api.ErrByte, 1)
		wantFault(t, "1."+s, api.ErrByte, 2)
		wantFault(t, " @"+s, api.ErrByte, 1)
		wantFault(t, " @@"+s, api.ErrByte, 1)
		wantFault(t, "@a"+s, api.ErrByte, 2)
		wantFault(t, "@@a."+s, api.ErrByte, 4)
		wantAll(t, "`"+s+"`", quotedName(s))
		wantAll(t, "'"+s+"'", text(s))
		wantAll(t, `"\`+s+`"`, text(s))
		wantAll(t, "@`A"+s+"`", user("a"+s))
		wantAll(t, "/*!"+s+"*/", odd("/*!"+s+"*/"))
		wantAll(t, "/*"+s+"*/#"+s+"\n-- "+s)
	}
}

func TestP19_1Names(t *testing.T) {
	for s, want := range map[string]string{
		"a": "a", "Z": "z", "_": "_", "$": "$", "SELECT": "select", "aB_9$": "ab_9$", "1a": "1a", "12345A6": "12345a6", "1_": "1_", "1$": "1$", "9é": "9é",
		"ÀÉ": "ÀÉ", "x1": "x1", "0x": "0x", "0xg": "0xg", "0x1g": "0x1g", "0x1G": "0x1g", "0XG": "0xg", "0X1F": "0x1f", "00x1": "00x1", "1e": "1e", "1E": "1e", "1e5a": "1e5a", "1ea5": "1ea5", "e5": "e5",
		"1e5_": "1e5_", "0x1_": "0x1_",
	} {
		wantAll(t, s, name(want))
	}
	wantWords(t, "a.b", name("a"), sign("."), name("b"))
	wantWords(t, "a`b`c", name("a"), quotedName("b"), name("c"))
	wantWords(t, "n'x'", name("n"), text("x"))
	wantWords(t, "a-b", name("a"), sign("-"), name("b"))
	wantWords(t, "1e+", name("1e"), sign("+"))
	wantWords(t, "1e-a", name("1e"), sign("-"), name("a"))
	wantWords(t, "1e+5", number("1e+5"))
	wantWords(t, "1e5+", number("1e5"), sign("+"))
	wantWords(t, "a@b", name("a"), user("b"))
}

func TestP19_1QuotedNames(t *testing.T) {
	for s, want := range map[string]string{
		"``": "", "`a`": "a", "`A b`": "A b", "````": "`", "`a``b`": "a`b", "```a`": "`a", "`a```": "a`", "``````": "``", "`\\`": `\`, "`'\"`": `'"`,
		"`/*x`": "/*x", "`;-- \n#`": ";-- \n#", "`\x00\xff`": "\x00\xff", "`@x?`": "@x?",
	} {
		wantAll(t, s, quotedName(want))
		wantAll(t, s+" 1", quotedName(want), placed(api.WordNumber, "1", len(s)+1))
	}
	wantWords(t, "`a` `b`", quotedName("a"), quotedName("b"))
	wantWords(t, "`a`.`b`", quotedName("a"), sign("."), quotedName("b"))
	for _, s := range list("`", "`a", "```", "`a``", "`a``b", "`'", "`````", "`a\\") {
		wantFault(t, s, api.ErrQuote, 0)
		wantFault(t, "a \n"+s, api.ErrQuote, 3)
		wantFault(t, "`x`,"+s, api.ErrQuote, 4)
	}
}

func TestP19_1Texts(t *testing.T) {
	for s, want := range map[string]string{
		"''": "", `""`: "", "'a'": "a", `"a"`: "a", "'A'": "A", "''''": "'", `""""`: `"`, "'it''s'": "it's", `"it's"`: "it's", `"it''s"`: "it''s", `'say "x"'`: `say "x"`, `'""'`: `""`,
		"'a'''": "a'", "'''a'": "'a", `'\''`: "'", `'\"'`: `"`, `"\'"`: "'", `"\""`: `"`, `'\\'`: `\`, `'\\\''`: `\'`, `'\\'''`: `\'`, `'\''''`: "''", `'''\''`: "''",
		`'a\nb'`: "a\nb", `'\\n'`: `\n`, `'\%\_'`: `\%\_`, `'\\%'`: `\%`, `'\0\n\t\r\b\Z'`: "\x00\n\t\r\b\x1a", `'\N\B\z\T\R'`: "NBzTR", "'\\\n'": "\n", "'\\\x00'": "\x00", `'\é'`: "é",
		"'`'": "`", "'-- x'": "-- x", "'/*'": "/*", "'#;'": "#;", "'\n'": "\n", "'\xff'": "\xff",
	} {
		wantAll(t, s, text(want))
		wantAll(t, s+" 1", text(want), placed(api.WordNumber, "1", len(s)+1))
	}
	wantWords(t, "'a' 'b'", text("a"), text("b"))
	wantWords(t, `'a'"b"'c'`, text("a"), text("b"), text("c"))
	for _, s := range list("'", `"`, "'a", `'"`, "'''", "'a''", `'\'`, `'\`, `'a\'`, `'\\\'`, `"\"`, `"""`, "'a''b", "'`", `"'`) {
		wantFault(t, s, api.ErrQuote, 0)
		wantFault(t, "a \n"+s, api.ErrQuote, 3)
		wantFault(t, `"x",`+s, api.ErrQuote, 4)
	}
}

// TestP19_1Escapes has each byte behind a backslash, alone and among others.
func TestP19_1Escapes(t *testing.T) {
	for x := range 256 {
		c := string([]byte{byte(x)})
		for _, quote := range list("'", `"`) {
			wantAll(t, quote+`\`+c+quote, text(escaped(byte(x))))
			wantAll(t, quote+`a\`+c+`\\b`+quote, text("a"+escaped(byte(x))+`\b`))
			wantAll(t, "@"+quote+`\`+c+quote, user(small(escaped(byte(x)))))
			wantFault(t, quote+`\`+c, api.ErrQuote, 0)
		}
		if c != "`" {
			wantAll(t, "`\\"+c+"`", quotedName(`\`+c))
		}
	}
}

func TestP19_1Numbers(t *testing.T) {
	for _, s := range list("0", "7", "007", "1234567890123456789012345678901234567890", "1.", "1.5", ".5", "0.0", "00.", "1e5", "1E5", "1e+5", "1E-5", "1.e5", "1.5e-3", ".5E+10", ".0e0", "1e007",
		"0x0", "0x1F", "0xabcdefABCDEF0123456789", "0xe", "0x1e5", "0xE") {
		wantAll(t, s, number(s))
		wantAll(t, "-"+s, sign("-"), placed(api.WordNumber, s, 1))
		wantAll(t, s+" 1", number(s), placed(api.WordNumber, "1", len(s)+1))
	}
	wantWords(t, "1..5", number("1."), number(".5"))
	wantWords(t, "1.5.3", number("1.5"), number(".3"))
	wantWords(t, "1.2.", number("1.2"), sign("."))
	wantWords(t, "..5", sign("."), number(".5"))
	wantWords(t, ".", sign("."))
	wantWords(t, ".e5", sign("."), name("e5"))
	wantWords(t, ".x", sign("."), name("x"))
	wantWords(t, "1.a", number("1."), name("a"))
	wantWords(t, "1.5a", number("1.5"), name("a"))
	wantWords(t, "1.e", number("1."), name("e"))
	wantWords(t, "1.5e", number("1.5"), name("e"))
	wantWords(t, "1.5e+", number("1.5"), name("e"), sign("+"))
	wantWords(t, ".5e-a", number(".5"), name("e"), sign("-"), name("a"))
	wantWords(t, "1.5e5a", number("1.5e5"), name("a"))
	wantWords(t, "1.5e5.5", number("1.5e5"), number(".5"))
	wantWords(t, "1e5.3", number("1e5"), number(".3"))
	wantWords(t, "1e5e5", name("1e5e5"))
	wantWords(t, "0x1F.5", number("0x1F"), number(".5"))
	wantWords(t, "0x1e+5", number("0x1e"), sign("+"), number("5"))
	wantWords(t, "0x.5", name("0x"), number(".5"))
	wantWords(t, ".0x1", number(".0"), name("x1"))
	wantWords(t, "t1.5", name("t1"), number(".5"))
	wantWords(t, "1e++5", name("1e"), sign("+"), sign("+"), number("5"))
	wantWords(t, "1e +5", name("1e"), sign("+"), number("5"))
	wantWords(t, "1'a'", number("1"), text("a"))
}

func TestP19_1UserVariables(t *testing.T) {
	for s, want := range map[string]string{
		"@x": "x", "@ABC": "abc", "@_": "_", "@$1": "$1", "@1a": "1a", "@1e5": "1e5", "@0x1F": "0x1f", "@é": "é", "@É": "É",
		"@`a`": "a", "@`A``B`": "a`b", "@``": "", "@'A b'": "a b", "@''": "", `@"It\nIS"`: "it\nis", "@'it''S'": "it's", `@'\Z\A'`: "\x1aa", "@`\xffÀZ`": "\xffÀz", "@`@`": "@",
	} {
		wantAll(t, s, user(want))
		wantAll(t, " "+s+" 1", placed(api.WordUser, want, 1), placed(api.WordNumber, "1", len(s)+2))
	}
	wantWords(t, "@a.b", user("a"), sign("."), name("b"))
	wantWords(t, "@a@b", user("a"), user("b"))
	wantWords(t, "@a'b'", user("a"), text("b"))
	wantWords(t, "@`a``b`'c'", user("a`b"), text("c"))
	for _, s := range list("@", "@ x", "@1", "@1.5", "@.5", "@;", "@/**/x", "@?", "@\n", "@\x00", "@@", "@@@x", "@@ x", "@@`x`", "@@'x'", "@@;") {
		wantFault(t, s, api.ErrByte, 0)
		wantFault(t, "a,"+s, api.ErrByte, 2)
	}
	for _, s := range list("@`", "@'", `@"`, "@`a", "@'a", "@'a''", `@'\'`, "@`a``", "@'`") {
		wantFault(t, s, api.ErrQuote, 0)
		wantFault(t, "a,"+s, api.ErrQuote, 2)
	}
}

func TestP19_1SystemVariables(t *testing.T) {
	for s, want := range map[string]string{
		"@@x": "x", "@@Session.SQL_Mode": "session.sql_mode", "@@1": "1", "@@1.5": "1.5", "@@a..b": "a..b", "@@.": ".", "@@.a": ".a", "@@a.": "a.", "@@$é9": "$é9", "@@É": "É", "@@0x1F": "0x1f", "@@1e": "1e",
	} {
		wantAll(t, s, system(want))
		wantAll(t, " "+s+" 1", placed(api.WordSystem, want, 1), placed(api.WordNumber, "1", len(s)+2))
	}
	wantWords(t, "@@a-b", system("a"), sign("-"), name("b"))
	wantWords(t, "@@a.`b`", system("a."), quotedName("b"))
	wantWords(t, "@@a@b", system("a"), user("b"))
	wantWords(t, "@@a@@b", system("a"), system("b"))
	wantWords(t, "@@1e+5", system("1e"), sign("+"), number("5"))
}

// TestP19_1Signs has each sign alone and behind one another, and all texts of up to three of their bytes.
func TestP19_1Signs(t *testing.T) {
	for _, s := range signs() {
		wantAll(t, s, sign(s))
		wantAll(t, "a "+s+" b", name("a"), placed(api.WordSign, s, 2), placed(api.WordName, "b", 3+len(s)))
		for _, behind := range signs() {
			wantPlain(t, s+behind)
			wantWords(t, s+" "+behind, sign(s), sign(behind))
		}
	}
	for s := range strs(3, bytesOf("<=>!:&|-(),;.+*/%^~{}[]?")...) {
		wantPlain(t, s)
	}
	wantWords(t, "<=>=<>!==<<=>>=&&&|||", sign("<=>"), sign("="), sign("<>"), sign("!="), sign("="), sign("<<"), sign("="), sign(">>"), sign("="), sign("&&"), sign("&"), sign("||"), sign("|"))
	wantWords(t, "->>->-->::=", sign("->>"), sign("->"), sign("-"), sign("->"), sign(":"), sign(":="))
	wantWords(t, "a--b", name("a"), sign("-"), sign("-"), name("b"))
	wantWords(t, "*/", sign("*"), sign("/"))
	wantWords(t, "/ *", sign("/"), sign("*"))
}

func TestP19_1Parameters(t *testing.T) {
	wantAll(t, "?", param())
	wantAll(t, "??,?", param(), placed(api.WordParam, "", 1), placed(api.WordSign, ",", 2), placed(api.WordParam, "", 3))
	wantWords(t, "a?b", name("a"), param(), name("b"))
}

func TestP19_1Remarks(t *testing.T) {
	for _, s := range list("#", "# x", "#x'`\"/*\x00\xff@", "-- ", "--\t", "--\v", "--\f", "--\r", "-- '", "--\t@;", "/**/", "/* x */", "/***/", "/*/*/", "/* ! */", "/*\n!*/", "/*'*/", "/*`\"\\@\xff\x00*/", "/* /* */", "/*-- */", "/*#*/") {
		wantAll(t, s)
		wantAll(t, "a"+s+"\nb", name("a"), placed(api.WordName, "b", len(s)+2))
	}
	wantAll(t, "--\nb", placed(api.WordName, "b", 3))
	wantAll(t, "#\nb", placed(api.WordName, "b", 2))
	wantAll(t, "-- x\r'\ny", placed(api.WordName, "y", 7))
	wantWords(t, "/* a */ b */", name("b"), sign("*"), sign("/"))
	wantWords(t, "/**/a/**/b", name("a"), name("b"))
	wantWords(t, "--", sign("-"), sign("-"))
	wantWords(t, "--;", sign("-"), sign("-"), sign(";"))
	wantWords(t, "--a", sign("-"), sign("-"), name("a"))
	wantWords(t, "--- x", sign("-"))
	wantWords(t, "--#x", sign("-"), sign("-"))
	wantWords(t, "--/**/ x", sign("-"), sign("-"), name("x"))
	wantFault(t, "--\x00", api.ErrByte, 2)
	for _, s := range list("/*", "/* ", "/*/", "/*x*", "/* x * /", "/*'", "/**", "/* -- \n", "/*\xff") {
		wantFault(t, s, api.ErrQuote, 0)
		wantFault(t, "a\n"+s, api.ErrQuote, 2)
		wantFault(t, "/* x */"+s, api.ErrQuote, 7)
	}
}

func TestP19_1OddRemarks(t *testing.T) {
	for _, s := range list("/*!*/", "/*+*/", "/*!40000 X*/", "/*+ Hint(A) */", "/*!/*/", "/*!!*/", "/*+!*/", "/*!'*/", "/*!;\n-- */", "/*!***/", "/*! /* */", "/*!\x00\xff*/") {
		wantAll(t, s, odd(s))
		wantAll(t, "a"+s+"b", name("a"), placed(api.WordOdd, s, 1), placed(api.WordName, "b", 1+len(s)))
	}
	wantWords(t, "/*!1*//*+2*/", odd("/*!1*/"), odd("/*+2*/"))
	wantWords(t, "/*! /*!1*/ x */", odd("/*! /*!1*/"), name("x"), sign("*"), sign("/"))
	for _, s := range list("/*!", "/*+", "/*!/", "/*+*", "/*! x", "/*!'*", "/*+\n") {
		wantFault(t, s, api.ErrQuote, 0)
		wantFault(t, "a\n"+s, api.ErrQuote, 2)
		wantFault(t, "/*!*/"+s, api.ErrQuote, 5)
	}
}

// TestP19_1FirstFault has several: the first one counts, and no words are told.
func TestP19_1FirstFault(t *testing.T) {
	wantFault(t, "a \x00 'x", api.ErrByte, 2)
	wantFault(t, "a 'x \x00", api.ErrQuote, 2)
	wantFault(t, "\x00\x01", api.ErrByte, 0)
	wantFault(t, "@ `", api.ErrByte, 0)
	wantFault(t, "` @", api.ErrQuote, 0)
	wantFault(t, "/* '\x00", api.ErrQuote, 0)
	wantFault(t, "'/*", api.ErrQuote, 0)
	wantFault(t, "# '\n@", api.ErrByte, 4)
	wantFault(t, "'a' 'b' 'c", api.ErrQuote, 8)
	wantFault(t, "select 1; select `", api.ErrQuote, 17)
}

// TestP19_1Small has all short texts of some small alphabets.
func TestP19_1Small(t *testing.T) {
	for _, a := range alphabets() {
		for s := range strs(a.n, a.pieces...) {
			wantPlain(t, s)
		}
	}
}

func TestP19_1Drawn(t *testing.T) {
	r := rand.New(rand.NewSource(191))
	for range 60000 {
		wantPlain(t, drawnText(r))
		wantPlain(t, drawnBytes(r))
	}
}

func TestP19_2Split(t *testing.T) {
	for s, want := range map[string][]string{
		"":                  nil,
		";":                 nil,
		";;; ;":             nil,
		" ":                 nil,
		"a":                 {"a"},
		" a ":               {" a "},
		"a;":                {"a"},
		";a":                {"a"},
		"a;b":               {"a", "b"},
		" a ; b ;":          {" a ", " b "},
		"a; ;\n;b":          {"a", "b"},
		"A;/* x */;B":       {"A", "B"},
		"/* x */ a # y\n;b": {"/* x */ a # y\n", "b"},
		"a -- ;b":           {"a -- ;b"},
		"a -- ;b\n;c":       {"a -- ;b\n", "c"},
		"# a;b":             nil,
		"';';`;`;\";\"":     {"';'", "`;`", "\";\""},
		"a /* ; */ b":       {"a /* ; */ b"},
		"/*! ; */;c":        {"/*! ; */", "c"},
		"@`;`;@@a;?":        {"@`;`", "@@a", "?"},
		"1;2.;.3":           {"1", "2.", ".3"},
		"a;;a;a":            {"a", "a", "a"},
		"--;":               {"--"},
		"é;'\xff'":          {"é", "'\xff'"},
	} {
		wantSplit(t, s, api.Fault{}, want...)
	}
	wantFault(t, "';;", api.ErrQuote, 0)
	wantFault(t, "a;b;'c", api.ErrQuote, 4)
	wantFault(t, "a;@;b", api.ErrByte, 2)
	wantFault(t, strings.Repeat("a;", 1<<19)+"b", api.ErrLong, -1)
	wantSplit(t, strings.Repeat("a;", 1<<19), api.Fault{}, slices.Repeat(list("a"), 1<<19)...)
}

func TestP19_3Quote(t *testing.T) {
	for s, want := range map[string]string{
		"": "''", "a": "'a'", "'": "''''", `\`: `'\\'`, "it's": "'it''s'", `\'`: `'\\'''`, `'\`: `'''\\'`, "''": "''''''", `\\`: `'\\\\'`, `"`: `'"'`, "`": "'`'",
		`\n\%`: `'\\n\\%'`, "\n\x00\x1a": "'\n\x00\x1a'", "é\xff": "'é\xff'", "%_": "'%_'", "A": "'A'",
	} {
		if got := scan.Quote(s); got != want {
			t.Errorf("Quote of %q: %q, want %q", s, got, want)
		}
	}
}

func TestP19_3Plain(t *testing.T) {
	wantPlainly(t, nil, "")
	wantPlainly(t, list(name("a")), "a")
	wantPlainly(t, list(name("select"), quotedName("A b"), sign(","), text("it's"), number("1.5e-3"), user("x"), system("session.y"), param(), odd("/*! x*/"), sign(";")),
		"select `A b` , 'it''s' 1.5e-3 @`x` @@session.y ? /*! x*/ ;")
	wantPlainly(t, list(quotedName(""), quotedName("`"), quotedName("a`b``"), quotedName(`\'"`)), "`` ```` `a``b````` `\\'\"`")
	wantPlainly(t, list(text(""), text("'"), text(`\`), text("`"), text("\n")), "'' '''' '\\\\' '`' '\n'")
	wantPlainly(t, list(user(""), user("`"), user(`it's\`)), "@`` @```` @`it's\\`")
	wantPlainly(t, list(param(), param()), "? ?")
	wantPlainly(t, list(sign("-"), sign("-"), name("x")), "- - x")
	wantPlainly(t, list(placed(api.WordName, "a", 77), placed(api.WordName, "b", -1)), "a b")
	for kind := 1; kind <= 9; kind++ {
		for _, s := range list("", "a", "A`'\"\\ b", "\xff") {
			if kind == api.WordParam && s != "" {
				continue
			}
			l := list(word(kind, s), name("z"), word(kind, s))
			wantPlainly(t, l[:1], plainPlain(l[:1]))
			wantPlainly(t, l, plainPlain(l))
		}
	}
}

func TestP19_3Drawn(t *testing.T) {
	r := rand.New(rand.NewSource(193))
	for range 50000 {
		s := drawnText(r)
		if got := scan.Quote(s); got != plainQuote(s) {
			t.Errorf("Quote of %q: %q", s, got)
		}
		var l []api.Word
		for range r.Intn(6) {
			l = append(l, drawnWord(r))
		}
		wantPlainly(t, l, plainPlain(l))
	}
}

// statements are texts of all kinds that have words alone.
func statements(t *testing.T, f func(s string, l []api.Word)) {
	t.Helper()
	told := 0
	try := func(s string) {
		if l, fault := scan.All(s); fault == (api.Fault{}) {
			told++
			f(s, l)
		}
	}
	r := rand.New(rand.NewSource(194))
	for range 100000 {
		try(drawnText(r))
	}
	for _, a := range alphabets() {
		for s := range strs(min(a.n, 4), a.pieces...) {
			try(s)
		}
	}
	if told < 30000 {
		t.Errorf("no more than %d had no fault", told)
	}
}

// TestP19_4InOrder has words that lie one behind the other: what is ahead of a word's place has the words ahead of it.
func TestP19_4InOrder(t *testing.T) {
	statements(t, func(s string, l []api.Word) {
		for i, w := range l {
			end := len(s)
			if i+1 < len(l) {
				end = l[i+1].At
			}
			if w.At < 0 || w.At >= end {
				t.Errorf("All of %s: %s", brief(s), brief(l))
				return
			}
			w.At = 0
			if own, f := scan.All(s[l[i].At:end]); len(own) != 1 || own[0] != w || f != (api.Fault{}) {
				t.Errorf("All of %s: %s, of its piece %s: %s, %v", brief(s), brief(l), brief(s[l[i].At:end]), brief(own), f)
			}
		}
	})
}

// TestP19_4QuoteRead has Quote's text read as one text that says the same.
func TestP19_4QuoteRead(t *testing.T) {
	for _, s := range list("", "'", `\`, `\'`, `'\`, "a\x00\n", "%", `\%`, "\xff", "é", strings.Repeat("a", 1<<20-2), strings.Repeat("'", 1<<19-1), strings.Repeat(`\`, 1<<19-1)) {
		wantAll(t, scan.Quote(s), text(s))
	}
	for _, s := range list(strings.Repeat("a", 1<<20-1), strings.Repeat("'", 1<<19), strings.Repeat(`\`, 1<<19)) {
		wantFault(t, scan.Quote(s), api.ErrLong, -1)
	}
	for x := range 256 {
		s := string([]byte{byte(x)})
		wantAll(t, scan.Quote(s), text(s))
		wantAll(t, scan.Quote(`\`+s+"'"), text(`\`+s+"'"))
	}
	for s := range strs(6, bytesOf("'\"`\\n%a")...) {
		wantAll(t, scan.Quote(s), text(s))
	}
	r := rand.New(rand.NewSource(195))
	for range 50000 {
		s := drawnBytes(r)
		wantAll(t, scan.Quote(s), text(s))
	}
}

// TestP19_4PlainRead has words read back from Plain.
func TestP19_4PlainRead(t *testing.T) {
	statements(t, func(s string, l []api.Word) {
		if slices.ContainsFunc(l, isTurned) {
			return
		}
		if got, f := scan.All(scan.Plain(l)); !slices.Equal(unplaced(got), unplaced(l)) || f != (api.Fault{}) {
			t.Errorf("All of Plain of what %s tells: %s, %v, want %s", brief(s), brief(got), f, brief(l))
		}
	})
}

// isTurned tells a name that Plain does not give back: such as 0X1F is no number, as its X is not small, but a name that says 0x1f.
func isTurned(w api.Word) bool {
	l, _ := plainAll(w.Text)
	return w.Kind == api.WordName && len(l) == 1 && l[0].Kind == api.WordNumber
}

// TestP19_1GreatX has the one name that says a number's bytes: P19.1 and P19.3 tell it so, though then P19.4 does not hold of it.
func TestP19_1GreatX(t *testing.T) {
	wantAll(t, "0X1F", name("0x1f"))
	wantPlainly(t, list(name("0x1f")), "0x1f")
	wantAll(t, "0x1f", number("0x1f"))
	statements(t, func(s string, l []api.Word) {
		for _, w := range l {
			if isTurned(w) && !strings.HasPrefix(s[w.At:], "0X") {
				t.Errorf("All of %s: %s", brief(s), brief(l))
			}
		}
	})
}

// TestT6 has long texts of one piece over and over, each twice, for the same answer; and Plain of words of all kinds, of none too.
func TestT6(t *testing.T) {
	for _, s := range fragments() {
		for _, head := range list("", "a '") {
			long := head + strings.Repeat(s, (1<<17)/len(s))
			first, f := scan.All(long)
			second, g := scan.All(long)
			if !slices.Equal(first, second) || f != g || f != (api.Fault{}) && len(first) != 0 {
				t.Errorf("All of %s: %s, %v and %s, %v", brief(long), brief(first), f, brief(second), g)
			}
			pieces, f := scan.Split(long)
			if again, g := scan.Split(long); !slices.Equal(pieces, again) || f != g || scan.Plain(first) != scan.Plain(second) || scan.Quote(long) != scan.Quote(long) {
				t.Errorf("Split, Plain or Quote of %s: not twice the same", brief(long))
			}
		}
	}
	for kind := -2; kind < 12; kind++ {
		l := list(word(kind, "a`'\\"), word(kind, ""))
		if a, b := scan.Plain(l), scan.Plain(l); a != b {
			t.Errorf("Plain of %s: %s and %s", brief(l), brief(a), brief(b))
		}
	}
}

// TestT6Ends has texts as long as may be, of short words: what a word does not have is looked for no farther than it goes, else this would not end in time.
func TestT6Ends(t *testing.T) {
	for _, s := range list("1.", "1.a", "a.", ".", "@@a..,", "@a,", "0x1,", "1.e+", "1e5+", "(", "''", "``", "->", "/**/", "/*!*/", "-- \n", "#\n", "é ", "1;") {
		long := strings.Repeat(s, (1<<20)/len(s))
		want, wantF := scan.All(s)
		l, f := scan.All(long)
		if f != wantF || len(l) < len(want) {
			t.Errorf("All of %s: %d words, %v", brief(long), len(l), f)
		}
	}
}
