package digest_test

import (
	"math"
	"math/rand"
	"slices"
	"strings"
	"testing"

	"sluicegate/api"
	"sluicegate/digest"
	"sluicegate/scan"
)

// wantText asks for a digest text, and for its digest.
func wantText(t *testing.T, s, want string) {
	t.Helper()
	if got, f := digest.Text(s); got != want || f != (api.Fault{}) {
		t.Errorf("Text of %s: %s, %v, want %s", brief(s), brief(got), f, brief(want))
	}
	if got, f := digest.Of(s); got != plainDigest(want) || f != (api.Fault{}) {
		t.Errorf("Of of %s: %s, %v, want %s", brief(s), brief(got), f, plainDigest(want))
	}
}

func wantFault(t *testing.T, s string, e api.Errno, at int) {
	t.Helper()
	want := api.Fault{Err: e, At: at}
	if got, f := digest.Text(s); got != "" || f != want {
		t.Errorf("Text of %s: %s, %v, want %v", brief(s), brief(got), f, want)
	}
	if got, f := digest.Of(s); got != "" || f != want {
		t.Errorf("Of of %s: %s, %v, want %v", brief(s), brief(got), f, want)
	}
}

// wantPlain asks that a text is told as the chapter tells it.
func wantPlain(t *testing.T, s string) {
	t.Helper()
	want, wantF := plainText(s)
	if got, f := digest.Text(s); got != want || f != wantF {
		t.Errorf("Text of %s: %s, %v, want %s, %v", brief(s), brief(got), f, brief(want), wantF)
	}
	want, wantF = plainOf(s)
	if got, f := digest.Of(s); got != want || f != wantF {
		t.Errorf("Of of %s: %s, %v, want %s, %v", brief(s), brief(got), f, brief(want), wantF)
	}
}

// wantWords asks for words with their places.
func wantWords(t *testing.T, l []api.Word, want ...api.Word) {
	t.Helper()
	if got := digest.Words(l); !slices.Equal(got, want) {
		t.Errorf("Words of %s: %s, want %s", brief(l), brief(got), brief(want))
	}
}

// wantAgain asks that words are changed as the chapter changes them, and not once more.
func wantAgain(t *testing.T, l []api.Word) {
	t.Helper()
	want := plainWords(l)
	wantWords(t, l, want...)
	wantWords(t, want, want...)
}

func TestExamples(t *testing.T) {
	wantText(t, "SELECT * FROM t WHERE a=1 AND b='x'", "select * from t where a = ? and b = ?")
	wantText(t, "insert into t values (1,-2),(3,4) ;", "insert into t values ( ? )")
	wantText(t, "select -1, a-1, (-1,b), in (1,2,3)", "select - ? , a - ? , ( ? , b ) , in ( ? )")
	wantText(t, "select /*+ x */ @a, `B`", "select @`a` , `B`")
}

// TestP21_1Params has odd remarks that go, and texts and numbers that become parameters where they stand.
func TestP21_1Params(t *testing.T) {
	for s, want := range map[string]string{
		"select 'a', \"b\", 1, 1.5e-3, .5, 0x1F, ?": "select ? , ? , ? , ? , ? , ? , ?", "select ''": "select ?", "'it''s'": "?", "'/*!*/' 'b'": "? ?", "1 2": "? ?",
		"/*!40101 select 1*/": "", "/*+ x */ /*! y */": "", "select /*! a */ b /*+ c */": "select b", "/*!*/a/*+*/": "a", "/* r */ a": "a", "a -- 1\n": "a", "# 'x'\na": "a",
		"@'x', @`Y`, @Z, @@Session.W, @@5": "@`x` , @`y` , @`z` , @@session.w , @@5", "`1`, `'x'`, `a``b`": "`1` , `'x'` , `a``b`", "1a": "1a", "a.5": "a ?", "a.b": "a . b", "": "", " \t": "", "-- x": "",
	} {
		wantText(t, s, want)
	}
	wantWords(t, list(placed(api.WordName, "a", 0), placed(api.WordText, "x", 2), placed(api.WordOdd, "/*!*/", 6), placed(api.WordNumber, "1", 12), placed(api.WordParam, "", 14)),
		placed(api.WordName, "a", 0), placed(api.WordParam, "", 2), placed(api.WordParam, "", 12), placed(api.WordParam, "", 14))
	wantWords(t, list(placed(api.WordText, "", -7), placed(api.WordNumber, "", math.MaxInt), placed(api.WordOdd, "", math.MinInt)), placed(api.WordParam, "", -7), placed(api.WordParam, "", math.MaxInt))
	for kind := -20; kind < 20; kind++ {
		if kind != api.WordText && kind != api.WordNumber && kind != api.WordOdd {
			wantWords(t, list(placed(kind, "x", 5)), placed(kind, "x", 5))
		}
	}
}

// TestP21_1Signs has a - and a + behind each word there is.
func TestP21_1Signs(t *testing.T) {
	for _, x := range list("-", "+") {
		for _, of := range list("1", "'v'", "?", ".5") {
			for _, s := range append(signs(), "a", "`(`", "`,`", "@a", "@@a", "?", "select", "1", "'='") {
				want, _ := digest.Text(s)
				if s == ";" {
					want = ";"
				}
				if !slices.Contains(list("(", ",", "="), s) {
					want += " " + x
				}
				wantText(t, "a "+s+" "+x+of, "a "+want+" ?")
			}
			for _, ahead := range list("", "/*!*/", "/* r */", "/*+ x */ ", "-- r\n") {
				wantText(t, ahead+x+of, "?")
				wantText(t, ahead+x+" "+x+of, strings.Join(list(x, x, "?"), " "))
			}
			wantText(t, "; "+x+of, "; "+x+" ?")
			for _, between := range list("/*!*/", "/* r */", "\n") {
				wantText(t, "("+between+x+between+of, "( ?")
			}
		}
		for _, of := range list("a", "(1)", "@a", "@@a", "`1`", "-a", "") {
			for _, s := range list("(", ",", "=", "") {
				want, _ := digest.Text(of)
				wantText(t, s+x+" "+of, strings.Join(strings.Fields(s+" "+x+" "+want), " "))
			}
		}
	}
	for _, s := range list("<=", ">=", ":=", "<=>", "!=", "->", "->>", "*", "*1 -", "(1)") {
		want, _ := digest.Text(s)
		wantText(t, "a"+s+"-1", "a "+want+" - ?")
	}
	for s, want := range map[string]string{
		"a=-1,b=+2": "a = ? , b = ?", "(-1-2)": "( ? - ? )", "(- -1)": "( - - ? )", "=+-1": "= + - ?", "-1-1": "? - ?", "(-1": "( ?", "-": "-", "+": "+", "(-": "( -", "=-": "= -", ",+": ", +", "- 'a' - 'b'": "? - ?", "*-1": "* - ?", "(*-1)": "( * - ? )",
	} {
		wantText(t, s, want)
	}
}

func TestP21_1Rows(t *testing.T) {
	for s, want := range map[string]string{
		"(1,2)": "( ? )", "(1)": "( ? )", "(?,?,'x',4.5)": "( ? )", "in (1,2) and f('a', 'b')": "in ( ? ) and f ( ? )", "((1,2,3))": "( ( ? ) )", "(1,2)(3,4)": "( ? ) ( ? )", "(1,2);(3,4)": "( ? ) ; ( ? )",
		"(1,a)": "( ? , a )", "(a,1,2)": "( a , ? , ? )", "(1,2,a)": "( ? , ? , a )", "(1,2,(3,4))": "( ? , ? , ( ? ) )", "((1,2),3,4)": "( ( ? ) , ? , ? )", "(1,2": "( ? , ?", "1,2)": "? , ? )", "1,2": "? , ?", "(1,2,)": "( ? , ? , )", "(,1,2)": "( , ? , ? )", "(1,,2)": "( ? , , ? )", "(1 2)": "( ? ? )", "(1,2 3)": "( ? , ? ? )", "(1;2)": "( ? ; ? )", "(1.2,3)": "( ? )", "(1 . 2)": "( ? . ? )",
		"()": "( )", "(,)": "( , )", "[1,2]": "[ ? , ? ]", "{1,2}": "{ ? , ? }", "(1,2]": "( ? , ? ]", "`(`1,2)": "`(` ? , ? )", "(1,2`)`": "( ? , ? `)`", "(1`,`2)": "( ? `,` ? )", "'('1,2)": "? ? , ? )", "(@a,@b)": "( @`a` , @`b` )", "(null,1)": "( null , ? )", "(1,- -2)": "( ? , - - ? )", "(1,2-3)": "( ? , ? - ? )",
	} {
		wantText(t, s, want)
	}
	for n := 1; n < 300; n++ {
		wantText(t, "in ("+strings.Repeat("1,", n-1)+"1)", "in ( ? )")
		wantText(t, "in ("+strings.Repeat("-1,", n)+"b)", "in ( "+strings.Repeat("? , ", n)+"b )")
	}
}

func TestP21_1Groups(t *testing.T) {
	for s, want := range map[string]string{
		"(1),(2)": "( ? )", "(1),(2),(3) ,( 4 )": "( ? )", "values (1,2),(3,4),('x',-5)": "values ( ? )", "(1),(2) x (3),(4)": "( ? ) x ( ? )", "((1),(2))": "( ( ? ) )", "((1),(2)),((3))": "( ( ? ) ) , ( ( ? ) )", "f(1),(2)": "f ( ? )",
		"(1),(a)": "( ? ) , ( a )", "(1),(2),(a),(3),(4)": "( ? ) , ( a ) , ( ? )", "(a),(1),(2)": "( a ) , ( ? )", "(1)(2)": "( ? ) ( ? )", "(1),,(2)": "( ? ) , , ( ? )", "(1);(2)": "( ? ) ; ( ? )", "(1),2": "( ? ) , ?", "(1),(2": "( ? ) , ( ?", "1),(2),(3)": "? ) , ( ? )", "(1),": "( ? ) ,", "(1),()": "( ? ) , ( )", "(),()": "( ) , ( )", "(1),(2),": "( ? ) ,", "(1),(2)(3)": "( ? ) ( ? )", "(a,1),(b,2)": "( a , ? ) , ( b , ? )", "(1),f(2)": "( ? ) , f ( ? )", "(1) , - (2)": "( ? ) , - ( ? )",
		"(1`)`,(2)": "( ? `)` , ( ? )", "(1)`,`(2)": "( ? ) `,` ( ? )", "(1),(2`)`": "( ? ) , ( ? `)`", "(1),`(`2)": "( ? ) , `(` ? )", "`(`1),(2)": "`(` ? ) , ( ? )", "(1) - 1": "( ? ) - ?", "(1),(2) - 1": "( ? ) - ?",
	} {
		wantText(t, s, want)
	}
	for n := range 300 {
		wantText(t, "values (1, 'a')"+strings.Repeat(", (-1, ?)", n), "values ( ? )")
	}
}

func TestP21_1Ends(t *testing.T) {
	for s, want := range map[string]string{
		"a;": "a", "a;;": "a", "a; ; -- x": "a", ";": "", ";;;": "", ";a": "; a", "a;b": "a ; b", "; a ;": "; a", "a;/*!*/": "a", "a;/*!*/;": "a", "/*!*/;": "", "a;1": "a ; ?", "a;1;": "a ; ?", "a;`;`": "a ; `;`", "a ';'": "a ?", "a; @`;`;": "a ; @`;`", "(1;": "( ?", "a :;": "a :",
	} {
		wantText(t, s, want)
	}
	for n := range 300 {
		wantText(t, strings.Repeat(";", n)+"a"+strings.Repeat(";", n), strings.TrimSpace(strings.Repeat("; ", n)+"a"))
		wantText(t, strings.Repeat(";", n), "")
	}
}

// TestP21_1Order has what one change makes ready for the one behind it, and what it does not for the one ahead.
func TestP21_1Order(t *testing.T) {
	for s, want := range map[string]string{
		"(/*!*/-/*+*/1/*!*/,/*!*/2)": "( ? )", "(1,-2,+'x')": "( ? )", "(1,2),(-3,4)": "( ? )", "(1)/*!*/,(2)/*!*/;/*!*/;": "( ? )", "((1),(2))": "( ( ? ) )", "((1),(2),-3)": "( ( ? ) , ? )", "((1,2),(3,4)),(5,6)": "( ( ? ) ) , ( ? )",
	} {
		wantText(t, s, want)
	}
}

// TestP21_1Places has words of which the first ones stay, where they were.
func TestP21_1Places(t *testing.T) {
	words, _ := scan.All("/*!*/f (-1, +'x' ,?) , (3),(4),b;;")
	wantWords(t, words, placed(api.WordName, "f", 5), placed(api.WordSign, "(", 7), placed(api.WordParam, "", 9), placed(api.WordSign, ")", 19),
		placed(api.WordSign, ",", 30), placed(api.WordName, "b", 31))
}

// TestP21_1NoWords has none, and no list.
func TestP21_1NoWords(t *testing.T) {
	for _, l := range [][]api.Word{nil, {}, make([]api.Word, 0, 3), list(sign(";"))[:0], list(sign(";")), list(word(api.WordOdd, "x"))} {
		wantWords(t, l)
	}
}

// TestP21_1Kinds has signs that are of another kind, and others that say what signs do.
func TestP21_1Kinds(t *testing.T) {
	row := list(sign("("), param(), sign(","), param(), sign(")"), sign(","), sign("("), param(), sign(")"), sign("="), sign("-"), param(), sign(";"))
	wantWords(t, row, sign("("), param(), sign(")"), sign("="), param())
	for i := range row {
		for kind := -1; kind < 12; kind++ {
			l := slices.Clone(row)
			l[i].Kind = kind
			wantAgain(t, l)
			l[i].Text = "?"
			wantAgain(t, l)
		}
		for _, s := range append(signs(), "", "?", "((", ";;") {
			l := slices.Clone(row)
			l[i].Text = s
			wantAgain(t, l)
		}
		wantAgain(t, row[i:])
		wantAgain(t, row[:i])
		wantAgain(t, slices.Delete(slices.Clone(row), i, i+1))
	}
	wantWords(t, list(sign("("), sign("?"), sign(","), sign("?"), sign(")")), sign("("), sign("?"), sign(","), sign("?"), sign(")"))
}

// TestP21_1Small has all short lists of the words of some families; Words of Words is Words.
func TestP21_1Small(t *testing.T) {
	for _, f := range families() {
		for l := range rows(f.n, f.words...) {
			wantAgain(t, l)
		}
	}
}

func TestP21_1Drawn(t *testing.T) {
	r := rand.New(rand.NewSource(211))
	for range 60_000 {
		wantAgain(t, drawnWords(r))
		wantPlain(t, drawnText(r))
	}
	for range 20_000 {
		wantPlain(t, drawnBytes(r))
	}
}

func TestP21_1Faults(t *testing.T) {
	wantFault(t, "select 'a", api.ErrQuote, 7)
	wantFault(t, "select `a", api.ErrQuote, 7)
	wantFault(t, "/* select 1", api.ErrQuote, 0)
	wantFault(t, "1; /*! select 1", api.ErrQuote, 3)
	wantFault(t, "select @", api.ErrByte, 7)
	wantFault(t, "\xff 'x", api.ErrByte, 0)
	wantFault(t, ";;\x00", api.ErrByte, 2)
	const most = 1 << 20
	wantText(t, "SELECT"+strings.Repeat(" ", most-7)+"1", "select ?")
	wantFault(t, "SELECT"+strings.Repeat(" ", most-6)+"1", api.ErrLong, -1)
	wantFault(t, strings.Repeat("'", most+1), api.ErrLong, -1)
}

// TestP21_1Digests are known ones.
func TestP21_1Digests(t *testing.T) {
	for s, want := range map[string]string{"": "e3b0c44298fc1c14", ";": "e3b0c44298fc1c14", "/*!*/": "e3b0c44298fc1c14", "ABC": "ba7816bf8f01cfea"} {
		if got, f := digest.Of(s); got != want || f != (api.Fault{}) {
			t.Errorf("Of of %s: %s, %v, want %s", brief(s), brief(got), f, want)
		}
	}
	seen := map[string]string{}
	for _, s := range list("", "?", "a", "b", "a b", "ab", "`a`", "@a", "@@a", "a ?", "? a", "a = ?", "a - ?", "( ?", "( ? )", "( ? , a )", "( ? , ? , a )", "; a", "a ; b", "`A`", "a , a", "é") {
		got, _ := digest.Of(s)
		if len(got) != 16 || strings.Trim(got, "0123456789abcdef") != "" || seen[got] != "" {
			t.Errorf("Of of %q: %s, as of %q", s, got, seen[got])
		}
		seen[got] = "x" + s
	}
}

// TestP21_2Again has digest texts that are their own, and that have no texts and numbers.
func TestP21_2Again(t *testing.T) {
	r := rand.New(rand.NewSource(212))
	for range 60_000 {
		// In great letters a hexadecimal number is none, but a name that says one.
		s := strings.ReplaceAll(drawnText(r), "X", "x")
		told, f := digest.Text(s)
		if f != (api.Fault{}) {
			continue
		}
		l, f := scan.All(told)
		isValue := func(w api.Word) bool { return w.Kind == api.WordText || w.Kind == api.WordNumber }
		if f != (api.Fault{}) || slices.ContainsFunc(l, isValue) {
			t.Errorf("Text of %s: %s", brief(s), brief(told))
		}
		wantText(t, told, told)
	}
}

// TestP21_2GreatX has the one name that says a number's bytes: P21.1 has it stay, though then the digest text has a number.
func TestP21_2GreatX(t *testing.T) {
	wantText(t, "select 0X1F", "select 0x1f")
	wantText(t, "select 0x1F", "select ?")
}

// TestP21_2Same has statements that differ in what goes.
func TestP21_2Same(t *testing.T) {
	r := rand.New(rand.NewSource(213))
	values := list("1", "'x'", "''", "\"it's\"", ".5", "0xFF", "1e9", "?", "'a;b'", "'(1,2)'")
	gaps := list(" ", "\n", "\t ", "/**/", " /* ; 'x' */ ", "/*!40101 x */", "/*+ hint */", "-- r\n", " # r\n")
	draw := func(l []string) string { return l[r.Intn(len(l))] }
	row := func() string {
		l := make([]string, 1+r.Intn(5))
		for i := range l {
			l[i] = draw(list("", "-", "+ ")) + draw(values)
		}
		return "( " + strings.Join(l, " , ") + " )"
	}
	for s, want := range map[string]string{
		"select a , VALUE from `T` where b = SVALUE and c in ROW limit VALUE": "select a , ? from `T` where b = ? and c in ( ? ) limit ?",
		"insert into t values ROWS on duplicate key update a = SVALUE":        "insert into t values ( ? ) on duplicate key update a = ?",
		"set @x = SVALUE , y = f ROW ENDS":                                    "set @`x` = ? , y = f ( ? )",
		"call p ( ROWS , q ) ENDS":                                            "call p ( ( ? ) , q )",
	} {
		for range 1500 {
			var b strings.Builder
			for _, x := range strings.Fields(s) {
				switch x {
				case "VALUE":
					x = draw(values)
				case "SVALUE":
					x = draw(list("", "-", "+")) + draw(values)
				case "ROW":
					x = row()
				case "ROWS":
					x = row() + strings.Repeat(draw(gaps)+","+row(), r.Intn(4))
				case "ENDS":
					x = strings.Repeat(";"+draw(gaps), r.Intn(3))
				default:
					if r.Intn(2) == 0 && x[0] != '`' {
						x = strings.ToUpper(x)
					}
				}
				b.WriteString(x + draw(gaps))
			}
			wantText(t, b.String(), want)
		}
	}
}

// TestT6 has long texts of one piece over and over, each twice, for the same answer.
func TestT6(t *testing.T) {
	for _, s := range append(fragments(), "(1,", "(1),", "(1,2),", "((1),", "a;", "\xff", "'", "a ") {
		for _, ahead := range list("", "(1", "( 'a") {
			long := ahead + strings.Repeat(s, (1<<14)/len(s))
			first, firstF := digest.Text(long)
			second, secondF := digest.Text(long)
			if first != second || firstF != secondF {
				t.Errorf("Text of %s: %s, %v and %s, %v", brief(long), brief(first), firstF, brief(second), secondF)
			}
			if of, f := digest.Of(long); f != firstF || f == (api.Fault{}) && of != plainDigest(first) {
				t.Errorf("Of of %s: %s, %v", brief(long), of, f)
			}
		}
	}
}

// TestT6Ends has as many words as a statement may have: what a row or a group goes on with is looked for once, else this would not end in time.
func TestT6Ends(t *testing.T) {
	for s, want := range map[string]int{"(": 1 << 20, "(,?": 1 << 20, "(?,?": 1 << 20, ",?": 1 << 20, "?,": 1 << 20, "(?),": 4, ";": 0, ";a": 1 << 20, "-": 1 << 20, "-?": 1<<20 - 1, ")": 1 << 20, ",(?)": 4, "/": 0} {
		var l []api.Word
		for i := range 1 << 20 {
			w := ofKind(s[i%len(s):][:1])
			w.At = i
			l = append(l, w)
		}
		if got := digest.Words(l); len(got) != want {
			t.Errorf("Words of many %s: %d, want %d", s, len(got), want)
		}
	}
}
