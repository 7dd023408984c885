package tests

import (
	"math"
	"math/rand"
	"reflect"
	"regexp"
	"slices"
	"strconv"
	"strings"
	"testing"

	"loop.example/g00894/impl"
)

var innerRepetition = regexp.MustCompile(`\(([pbs]+)\)([2-9])`)

// plainReduced rewrites a block until no innermost repetition is left, each one as the text that the function makes of it.
func plainReduced(block string, write func(calls string, times int) string) string {
	for {
		found := innerRepetition.FindStringSubmatchIndex(block)
		if found == nil {
			return block
		}
		times, _ := strconv.Atoi(block[found[4]:found[5]])
		block = block[:found[0]] + write(block[found[2]:found[3]], times) + block[found[1]:]
	}
}

// plainIsBlock reports whether a text is a block in which some names are defined.
func plainIsBlock(block string, bodies map[string]string) bool {
	for name := range bodies {
		block = strings.ReplaceAll(block, name, "p")
	}
	block = plainReduced(block, func(string, int) string { return "p" })
	return block != "" && strings.Trim(block, "pbs") == ""
}

// plainExpanded is the expansion of a block, or "x" if this has more than 60 calls.
func plainExpanded(block string, bodies map[string]string) string {
	for name, body := range bodies {
		block = strings.ReplaceAll(block, name, body)
	}
	if strings.Contains(block, "x") {
		return "x"
	}
	long := false
	expanded := plainReduced(block, func(calls string, times int) string {
		long = long || len(calls)*times > 60
		if long {
			return "p"
		}
		return strings.Repeat(calls, times)
	})
	if long || len(expanded) > 60 {
		return "x"
	}
	return expanded
}

func plainDepth(text string) int {
	depth := 0
	for i := range text {
		depth = max(depth, strings.Count(text[:i+1], "(")-strings.Count(text[:i+1], ")"))
	}
	return depth
}

// plainWords reads a program by the words of the document: its names and its calls, which are "x" if they are too many.
func plainWords(s string) (names []string, calls string, ok bool) {
	if len(s) > 200 {
		return nil, "", false
	}
	bodies := map[string]string{}
	texts := strings.Split(s, ";")
	last := len(texts) - 1
	for _, text := range texts[:last] {
		name, block, found := strings.Cut(text, "=")
		if _, again := bodies[name]; !found || again || len(name) != 1 || name < "A" || name > "Z" || !plainIsBlock(block, bodies) {
			return nil, "", false
		}
		bodies[name] = plainExpanded(block, bodies)
		names = append(names, name)
	}
	if !plainIsBlock(texts[last], bodies) {
		return nil, "", false
	}
	return names, plainExpanded(texts[last], bodies), true
}

// callWordsFunctions calls every function of chapter 10 that takes no method and returns what they return.
func callWordsFunctions(s string) []any {
	is := impl.IsWords(s)
	names, ok1 := impl.NamesIn(s)
	touch, ok2 := impl.CompileWords(s)
	depth, ok3 := impl.DepthOf(s)
	printed, ok4 := impl.PrintParts(s)
	return []any{is, names, ok1, touch, ok2, depth, ok3, printed, ok4}
}

// callCallingFunctions calls every function of chapter 10 that takes a method and returns what they return.
func callCallingFunctions(m impl.Method, k impl.Calls, s string, bell int) []any {
	text, ok1 := impl.CallingText(m, k, s, bell)
	touch, ok2 := impl.ReadCalling(m, k, s, bell)
	return []any{text, ok1, touch, ok2}
}

// checkProgram compares the functions that take a program with what is wanted of them; a program that is too long has no touch.
func checkProgram(t *testing.T, s string, names []string, touch string, depth int) {
	t.Helper()
	if !impl.IsWords(s) {
		t.Fatalf("IsWords(%q) is false", s)
	}
	if got, ok := impl.NamesIn(s); !ok || !slices.Equal(got, names) {
		t.Fatalf("NamesIn(%q) is %q, %v", s, got, ok)
	}
	if got, ok := impl.CompileWords(s); got != touch || ok != (touch != "") {
		t.Fatalf("CompileWords(%q) is %q, %v", s, got, ok)
	}
	if got, ok := impl.DepthOf(s); got != depth || !ok {
		t.Fatalf("DepthOf(%q) is %d, %v", s, got, ok)
	}
}

func checkNoProgram(t *testing.T, s string) {
	t.Helper()
	if results := callWordsFunctions(s)[:7]; !allZero(results) {
		t.Fatalf("with %q the functions return %v", s, results)
	}
}

// checkWords compares the functions that take a program with the words of the document, and reports whether it is one.
func checkWords(t *testing.T, s string) bool {
	t.Helper()
	names, calls, ok := plainWords(s)
	if ok {
		checkProgram(t, s, names, strings.Trim(calls, "x"), plainDepth(s))
	} else {
		checkNoProgram(t, s)
	}
	return ok
}

// plainPart is the shortest text of which a touch is a repetition.
func plainPart(touch string) string {
	size := 1
	for strings.Repeat(touch[:size], len(touch)/size) != touch {
		size++
	}
	return touch[:size]
}

func mustPrintParts(t *testing.T, touch string) string {
	t.Helper()
	printed, ok := impl.PrintParts(touch)
	if !ok {
		t.Fatalf("PrintParts(%q) fails", touch)
	}
	return printed
}

// checkParts compares the printed form of a touch with the words of the document, and compiles it.
func checkParts(t *testing.T, touch string) {
	t.Helper()
	want := touch
	part := plainPart(touch)
	if times := len(touch) / len(part); times >= 2 && times <= 9 {
		want = "(" + part + ")" + strconv.Itoa(times)
	}
	printed := mustPrintParts(t, touch)
	if printed != want {
		t.Fatalf("PrintParts(%q) is %q", touch, printed)
	}
	if compiled, ok := impl.CompileWords(printed); compiled != touch || !ok {
		t.Fatalf("CompileWords(%q) is %q, %v", printed, compiled, ok)
	}
}

// plainCalling describes a touch by the positions of a bell, by the words of the document.
func plainCalling(m impl.Method, k impl.Calls, touch string, bell int) string {
	called := map[byte]string{}
	for _, call := range letters {
		called[call[0]] = plainHead(plainCalled(m, k, call))
	}
	heads := []string{rounds8[:m.Stage]}
	for i := range touch {
		heads = append(heads, plainProduct(heads[i], called[touch[i]]))
	}
	var items []string
	since := 0
	for i := range touch {
		if touch[i] == 'p' {
			continue
		}
		place := strings.IndexByte(heads[i+1], rounds8[bell-1])
		item := touch[i:i+1] + strconv.Itoa(place+1)
		earlier := 0
		for lead := since; lead < i; lead++ {
			if strings.IndexByte(plainProduct(heads[lead], called[touch[i]]), rounds8[bell-1]) == place {
				earlier++
			}
		}
		if earlier > 0 {
			item += "+" + strconv.Itoa(earlier)
		}
		items = append(items, item)
		since = i + 1
	}
	if since < len(touch) {
		items = append(items, "p"+strconv.Itoa(len(touch)-since))
	}
	return strings.Join(items, " ")
}

func checkCallingText(t *testing.T, m impl.Method, k impl.Calls, touch string, bell int, want string) {
	t.Helper()
	if text, ok := impl.CallingText(m, k, touch, bell); text != want || !ok {
		t.Fatalf("CallingText(%v, %v, %q, %d) is %q, %v, not %q", m, k, touch, bell, text, ok, want)
	}
	if back, ok := impl.ReadCalling(m, k, want, bell); back != touch || !ok {
		t.Fatalf("ReadCalling(%v, %v, %q, %d) is %q, %v, not %q", m, k, want, bell, back, ok, touch)
	}
}

// checkCalling compares the calling of a touch with the words of the document, and recovers the touch from it.
func checkCalling(t *testing.T, m impl.Method, k impl.Calls, touch string, bell int) {
	t.Helper()
	checkCallingText(t, m, k, touch, bell, plainCalling(m, k, touch, bell))
}

func checkNoCalling(t *testing.T, m impl.Method, k impl.Calls, s string, bell int) {
	t.Helper()
	if touch, ok := impl.ReadCalling(m, k, s, bell); touch != "" || ok {
		t.Fatalf("ReadCalling(%v, %v, %q, %d) is %q, %v", m, k, s, bell, touch, ok)
	}
}

// checkAnyCalling reads a text that may be the calling of a touch, and reports whether it is.
func checkAnyCalling(t *testing.T, m impl.Method, k impl.Calls, s string, bell int) bool {
	t.Helper()
	touch, ok := impl.ReadCalling(m, k, s, bell)
	if ok != (touch != "") || ok && (!plainIsTouch(touch) || plainCalling(m, k, touch, bell) != s) {
		t.Fatalf("ReadCalling(%v, %v, %q, %d) is %q, %v", m, k, s, bell, touch, ok)
	}
	return ok
}

// altered are the texts that differ from a text by one byte: left out, replaced or added, or changed with the next one.
func altered(s string, bytes string) []string {
	texts := []string{}
	for at := range len(s) + 1 {
		for i := range bytes {
			texts = append(texts, s[:at]+bytes[i:i+1]+s[at:])
			if at < len(s) {
				texts = append(texts, s[:at]+bytes[i:i+1]+s[at+1:])
			}
		}
		if at < len(s) {
			texts = append(texts, s[:at]+s[at+1:], s[:at])
		}
		if at+1 < len(s) {
			texts = append(texts, s[:at]+s[at+1:at+2]+s[at:at+1]+s[at+2:])
		}
	}
	return texts
}

// textsOver are all texts of a length over some bytes.
func textsOver(bytes string, length int) []string {
	texts := []string{""}
	for range length {
		var longer []string
		for _, s := range texts {
			for i := range bytes {
				longer = append(longer, s+bytes[i:i+1])
			}
		}
		texts = longer
	}
	return texts
}

// randomBlock makes a block from calls, the given names and repetitions.
func randomBlock(source *rand.Rand, names string, depth int) string {
	block := ""
	for range 1 + source.Intn(4) {
		switch kind := source.Intn(5); {
		case kind == 0 && depth > 0:
			block += "(" + randomBlock(source, names, depth-1) + ")" + strconv.Itoa(2+source.Intn(8))
		case kind < 3 && names != "":
			at := source.Intn(len(names))
			block += names[at : at+1]
		default:
			block += letters[source.Intn(3)]
		}
	}
	return block
}

// randomPrograms makes programs with up to six definitions, the same ones in every run.
func randomPrograms(count int) []string {
	source := rand.New(rand.NewSource(10))
	var programs []string
	for len(programs) < count {
		program, names := "", ""
		for _, at := range source.Perm(26)[:source.Intn(7)] {
			name := string(rune('A' + at))
			program += name + "=" + randomBlock(source, names, 2) + ";"
			names += name
		}
		program += randomBlock(source, names, source.Intn(5))
		if len(program) <= 200 {
			programs = append(programs, program)
		}
	}
	return programs
}

// nested is a call in as many repetitions as wanted.
func nested(depth int, times string) string {
	return strings.Repeat("(", depth) + "p" + strings.Repeat(")"+times, depth)
}

// badPrograms are texts of at most 200 bytes and others that are no programs.
func badPrograms() []string {
	programs := []string{
		"", " ", "x", "P", "a", "1", "2", "=", ";", "(", ")", "()", "()2", "(2", ")2", "(p", "p)", "(p)", "p)2", "(p2", "(p)p", "p2", "2p", "2(p)", "pb2",
		"(p)0", "(p)1", "(p)-2", "(p)+2", "(p) 2", "(p)02", "(p)10", "(p)12", "(p)22", "(p)99", "(p)b2", "(p)a", "(p)A", "(p)=", "(p)\u0662", "(p)\xb2", "(p)\uff12",
		"((p)2", "(p)2)", "(p)2)2", "((p)2)", "((p))2", "((p)1)2", "(()2)2", "(()2p)2", "(p())2", "(p)(b)", "(p)(b)2", "(p)2(b)", ")p(2", "[p]2", "{p}2",
		"A", "AB", "pA", "(A)2", "A=p", "A=p;", "A=;p", "=p;p", "A;p", "A p;p", "Ap;p", "A==p;p", "A=p=b;p", "A=p;;p", ";p", "p;", "p;p", "p;b;s", "A=p;p;", "A=p;p;b",
		"A=p;B", "A=p;AB", "A=p;(B)2", "A=A;p", "A=A;A", "A=pA;p", "A=(A)2;p", "A=B;B=p;A", "A=B;B=p;p", "A=pB;B=b;p", "A=p;B=C;C=b;p", "A=p;B=AB;p",
		"A=p;A=b;A", "A=p;A=p;p", "A=p;B=b;A=s;p", "A=p;A=A;A", "A=p;B=A;A=B;p", "A=p;B=b;C=s;D=p;B=p;p",
		"a=p;p", "a=p;a", "AB=p;p", "A=p;BA=p;p", "A1=p;p", "1=p;p", "p=p;p", "p=b;p", "(A)=p;p", "(A=p;A)2", "(A=p)2;p", "A=(p;p", "A=(p;)2;p", "A=p);p", "A=p)2;p", "A=(p);p", "A=();p", "A=()2;p",
		"A=p;()2", "A=p;(p)1", "A=p;p)", "A =p;A", "A= p;A", "A=p; A", "A=p ;A", " A=p;A", "A=p;A ", "p b", " p", "p ", "p\n", "\tp", "p,b", "p.b", "p-b", "p\x00", "\x00", "\xff", "p\xffb", "p\u0301",
		"\u0410=p;p", "\u0391=p;\u0391", "\u00c4=p;p", "\uff21=p;p", "\u0440", "[=p;p", "@=p;p", "[", "@", "A=p;[", "A=p;@", "A:p;A", "A=p:A", "A=p\nA",
		strings.Repeat("(", 200), strings.Repeat(")", 200), strings.Repeat("()", 100), strings.Repeat("(p", 100), nested(66, "2") + ")", "(" + nested(66, "2"), nested(65, "1"),
		strings.Repeat("A=p;", 40) + "A", strings.Repeat("A=p;", 50), strings.Repeat("A", 200), strings.Repeat(";", 200), strings.Repeat("=", 200),
		strings.Repeat("p", 201), strings.Repeat("p", 1<<16), "A=" + strings.Repeat("p", 197) + ";p", nested(66, "2") + "pb", strings.Repeat("(", 1<<20), nested(1<<16, "2"),
	}
	for letter := range 256 {
		one := string([]byte{byte(letter)})
		if !slices.Contains(letters, one) {
			programs = append(programs, one, "p"+one, "A=p;"+one+"p", "A=p"+one+"A", "A"+one+"p;A", "(p"+one+"2b")
		}
		if letter < 'A' || letter > 'Z' {
			programs = append(programs, one+"=p;p")
		}
		if letter < '2' || letter > '9' {
			programs = append(programs, "(p)"+one, "(p)"+one+"b")
		}
	}
	// Some of these are programs for a few letters.
	return slices.DeleteFunc(programs, func(s string) bool { _, _, ok := plainWords(s); return ok })
}

func TestProgramsOfTheDocument(t *testing.T) {
	checkProgram(t, "((p)2b)2", nil, "ppbppb", 2)
	for _, s := range []string{"", "()2", "(p)1", "A=p;A=b;A", "p;"} {
		checkNoProgram(t, s)
	}
	checkProgram(t, "A=p;C=b;AC", []string{"A", "C"}, "pb", 0)
	checkProgram(t, "A=ps;B=(A)2;BAb", []string{"A", "B"}, "pspspsb", 1)
	checkProgram(t, "((pppp)9)9", nil, "", 2)
	checkProgram(t, "A=((p)2)2;A", []string{"A"}, "pppp", 2)
	if printed := mustPrintParts(t, "pbpb"); printed != "(pb)2" {
		t.Errorf("PrintParts is %q", printed)
	}
}

func TestProgramsKnown(t *testing.T) {
	for _, known := range []struct {
		s     string
		names string
		touch string
		depth int
	}{
		{"p", "", "p", 0}, {"b", "", "b", 0}, {"s", "", "s", 0}, {"pbs", "", "pbs", 0}, {"ppbss", "", "ppbss", 0},
		{"(p)2", "", "pp", 1}, {"(b)9", "", "bbbbbbbbb", 1}, {"(pb)3", "", "pbpbpb", 1}, {"p(b)2s", "", "pbbs", 1}, {"(p)2(b)3", "", "ppbbb", 1}, {"(s)4(s)5", "", "sssssssss", 1},
		{"((p)2)3", "", "pppppp", 2}, {"((p)2(b)2s)2", "", "ppbbsppbbs", 2}, {"(p(b(s)2)2)2", "", "pbssbsspbssbss", 3}, {"((((p)2)2)2)2", "", strings.Repeat("p", 16), 4}, {"(p)2((b)2)2(s)2", "", "ppbbbbss", 2},
		{"A=p;A", "A", "p", 0}, {"A=p;b", "A", "b", 0}, {"Z=s;ZZ", "Z", "ss", 0}, {"M=pb;sMs", "M", "spbs", 0}, {"A=p;B=b;BA", "A B", "bp", 0}, {"Z=p;A=b;M=s;AMZ", "Z A M", "bsp", 0},
		{"A=p;B=A;C=B;CBA", "A B C", "ppp", 0}, {"A=pb;B=AsA;C=BB;C", "A B C", "pbspbpbspb", 0}, {"A=p;B=AA;C=BB;D=CC;DC", "A B C D", strings.Repeat("p", 12), 0},
		{"A=(pb)2;A", "A", "pbpb", 1}, {"A=pb;(A)2", "A", "pbpb", 1}, {"A=(p)2;(A)2", "A", "pppp", 1}, {"A=(p)2;B=((b)2A)2;(ABs)2", "A B", "ppbbppbbppsppbbppbbpps", 2},
		{"A=(((p)2)2)2;b", "A", "b", 3}, {"A=((p)2)2;(A)2", "A", "pppppppp", 2}, {"A=(p)2;((A)2)2", "A", "pppppppp", 2}, {"A=(p)2;B=A;C=B;C", "A B C", "pp", 1},
		{"A=((p)2)2;B=(((b)2)2)2;(s)2", "A B", "ss", 3}, {"A=p;B=p;C=p;A", "A B C", "p", 0}, {"A=((pppp)9)9;p", "A", "p", 2}, {"A=((pppp)9)9;B=A;C=(BA)2b;s", "A B C", "s", 2},
		{"A=((pppp)9)9;A", "A", "", 2}, {"A=((pppp)9)9;B=A;pB", "A B", "", 2}, {"A=((pppp)9)9;B=p;(pAp)2B", "A B", "", 2},
	} {
		checkProgram(t, known.s, strings.Fields(known.names), known.touch, known.depth)
		if !checkWords(t, known.s) {
			t.Errorf("%q is no program by the words of the document", known.s)
		}
	}
}

func TestAllShortPrograms(t *testing.T) {
	count := 0
	for length := range 7 {
		for _, s := range textsOver("pA=;()2", length) {
			if checkWords(t, s) {
				count++
			}
		}
	}
	for _, s := range slices.Concat(textsOver("pbsAB=;()0129 x", 4), textsOver("pAB=;", 7)) {
		if checkWords(t, s) {
			count++
		}
	}
	if count < 100 {
		t.Errorf("only %d programs", count)
	}
}

func TestProgramsByTheWords(t *testing.T) {
	named, touches, long := 0, 0, 0
	for _, s := range randomPrograms(4000) {
		if !checkWords(t, s) {
			t.Fatalf("%q is no program by the words of the document", s)
		}
		if strings.Contains(s, "=") {
			named++
		}
		if _, ok := impl.CompileWords(s); ok {
			touches++
		} else {
			long++
		}
	}
	if named < 1000 || touches < 500 || long < 500 {
		t.Errorf("%d programs with names, %d with touches and %d too long", named, touches, long)
	}
}

func TestAlteredPrograms(t *testing.T) {
	are, areNot := 0, 0
	for _, s := range append(randomPrograms(60), "A=ps;B=(A)2;BAb", "((p)2b)2", "A=((p)2)2;A", "Z=p;A=Z;(ZA)9") {
		for _, other := range altered(s, "pbsABZa=;()01239 ") {
			if checkWords(t, other) {
				are++
			} else {
				areNot++
			}
		}
	}
	if are < 5000 || areNot < 5000 {
		t.Errorf("%d texts are programs and %d are not", are, areNot)
	}
}

func TestTextsThatAreNoPrograms(t *testing.T) {
	for _, s := range badPrograms() {
		checkNoProgram(t, s)
	}
}

func TestProgramsOfTheMostBytes(t *testing.T) {
	touch := randomTouches(1)[59]
	calls := strings.Repeat("p", 196)
	for _, known := range []struct{ s, names, touch string }{
		{strings.Repeat("p", 200), "", ""},
		{"A=" + calls + ";p", "A", "p"},
		{"A=" + calls + ";A", "A", ""},
		{"A=" + calls[:137] + ";" + touch, "A", touch},
		{strings.Repeat("(p)9", 50), "", ""},
		{nested(66, "2") + "p", "", ""},
		{"A=" + nested(64, "9") + ";pbps", "A", "pbps"},
		{strings.Repeat("(", 65) + "pbsbp" + strings.Repeat(")3", 65), "", ""},
	} {
		if len(known.s) != impl.MaxWords {
			t.Fatalf("%q has %d bytes", known.s, len(known.s))
		}
		checkProgram(t, known.s, strings.Fields(known.names), known.touch, plainDepth(known.s))
		for _, s := range []string{known.s + "p", "p" + known.s, "B=p;" + known.s, known.s + "(p)2", known.s + " "} {
			checkNoProgram(t, s)
		}
	}
	for length := 1; length <= 300; length++ {
		s := "A=" + strings.Repeat("s", length) + ";b"
		if impl.IsWords(s) != (len(s) <= impl.MaxWords) {
			t.Errorf("IsWords of %d bytes is %v", len(s), impl.IsWords(s))
		}
		s = strings.Repeat("s", length)
		if _, ok := impl.CompileWords(s); impl.IsWords(s) != (length <= impl.MaxWords) || ok != (length <= impl.MaxCalls) {
			t.Errorf("CompileWords of %d calls is %v", length, ok)
		}
	}
}

// longestPrograms are programs that expand to 60 calls.
func longestPrograms() []string {
	touch := randomTouches(1)[59]
	return []string{
		strings.Repeat("p", 60), strings.Repeat("pbs", 20), touch, "A=" + touch + ";A", "A=" + touch[:30] + ";B=" + touch[30:] + ";AB",
		"(pbspbs)9pbspbs", "((pb)5)6", "((((p)2)5)3)2", "((((b)2)2)3)5", "(p)4((b)7)8", "p((b)7)8(s)3", "(s)3((b)7)8p", "(pppbbbss)7ssss",
		"A=(pb)5;(A)6", "A=((pb)5)6;A", "A=ppppp;B=AAAA;BBB", "A=p;B=(A)9AAAA;C=B;D=(C)2;DDAAAAAAAA", "A=(ps)9;(A)3pbspbs", "A=pbs;B=(A)9A;C=BB;C",
	}
}

func TestExpansionsOfTheMostCalls(t *testing.T) {
	for _, s := range longestPrograms() {
		names, calls, ok := plainWords(s)
		if !ok || len(calls) != impl.MaxCalls {
			t.Fatalf("%q has the calls %q, %v", s, calls, ok)
		}
		checkProgram(t, s, names, calls, plainDepth(s))
		at := strings.LastIndex(s, ";") + 1
		definitions, block := s[:at], s[at:]
		// One call more is too much, but a program.
		for _, call := range letters {
			checkProgram(t, s+call, names, "", plainDepth(s))
			checkProgram(t, definitions+call+block, names, "", plainDepth(s))
		}
		checkProgram(t, definitions+"("+block+")2", names, "", max(plainDepth(s), plainDepth(block)+1))
		// A name that is not used may be as long as it likes.
		checkProgram(t, definitions+"Z="+block+"p;bs", append(slices.Clone(names), "Z"), "bs", plainDepth(s))
		checkProgram(t, definitions+"Z="+block+"p;Z", append(slices.Clone(names), "Z"), "", plainDepth(s))
		checkProgram(t, definitions+"Z="+block+";Z", append(slices.Clone(names), "Z"), calls, plainDepth(s))
	}
	for times := 2; times <= 9; times++ {
		for length := 1; length <= 60; length++ {
			part := strings.Repeat("b", length-1) + "s"
			s := "(" + part + ")" + strconv.Itoa(times)
			touch := ""
			if length*times <= 60 {
				touch = strings.Repeat(part, times)
			}
			checkProgram(t, s, nil, touch, 1)
			checkProgram(t, "A="+part+";(A)"+strconv.Itoa(times), []string{"A"}, touch, 1)
		}
	}
}

func TestExpansionsThatAreVeryLong(t *testing.T) {
	doubled, names := "A=pb;", []string{"A"}
	for letter := 'B'; letter <= 'Z'; letter++ {
		before := string(letter - 1)
		doubled += string(letter) + "=" + before + before + before + ";"
		names = append(names, string(letter))
	}
	checkProgram(t, doubled+"Z", names, "", 0)
	checkProgram(t, doubled+"A", names, "pb", 0)
	checkProgram(t, doubled+"D", names, strings.Repeat("pb", 27), 0)
	checkProgram(t, doubled+"DAAA", names, strings.Repeat("pb", 30), 0)
	checkProgram(t, doubled+"DBA", names, "", 0)
	powers := "A=((((((((p)9)9)9)9)9)9)9)9;B=((((((((A)9)9)9)9)9)9)9)9;C=((((((((B)9)9)9)9)9)9)9)9;"
	checkProgram(t, powers+"D=((((((((C)9)9)9)9)9)9)9)9;((((((((D)9)9)9)9)9)9)9)9", []string{"A", "B", "C", "D"}, "", 8)
	checkProgram(t, powers+"s", []string{"A", "B", "C"}, "s", 8)
	for depth := 1; depth <= 66; depth++ {
		touch := ""
		if depth <= 5 {
			touch = strings.Repeat("p", 1<<depth)
		}
		checkProgram(t, nested(depth, "2"), nil, touch, depth)
		s := nested(depth, "9")
		if checkWords(t, s) != (len(s) <= 200) || impl.IsWords(s+"()2") || impl.IsWords("("+s) || impl.IsWords(s+")2") || impl.IsWords(s[1:]) {
			t.Errorf("IsWords(%q) is %v", s, impl.IsWords(s))
		}
	}
	// A fault behind a text that expands to much is a fault.
	for _, s := range []string{nested(50, "9") + "x", nested(50, "9") + "A", nested(50, "9") + ";", powers + "D", powers + "A=p;p", doubled + "(Z)1"} {
		checkNoProgram(t, s)
	}
}

func TestAllNamesCanBeDefined(t *testing.T) {
	forward, backward, alike := "", "", ""
	var names []string
	for letter := 'A'; letter <= 'Z'; letter++ {
		name := string(letter)
		names = append(names, name)
		forward += name + "=" + letters[int(letter)%3] + ";"
		backward = name + "=" + letters[int(letter)%3] + ";" + backward
		alike += name + "=p;"
		checkProgram(t, name+"=b;"+name, []string{name}, "b", 0)
		checkNoProgram(t, name)
		checkNoProgram(t, strings.ToLower(name)+"=p;p")
		checkNoProgram(t, name+"=b;"+name+"=b;p")
	}
	all := "ABCDEFGHIJKLMNOPQRSTUVWXYZ"
	touch := ""
	for i := range all {
		touch += letters[int(all[i])%3]
	}
	reversed := slices.Clone(names)
	slices.Reverse(reversed)
	checkProgram(t, forward+all, names, touch, 0)
	checkProgram(t, backward+all, reversed, touch, 0)
	checkProgram(t, alike+all+all, names, strings.Repeat("p", 52), 0)
	checkProgram(t, alike+"s", names, "s", 0)
	for _, name := range names {
		checkNoProgram(t, forward+name+"=p;p")
	}
}

func TestNamesAreUsableOnlyBehindTheirDefinition(t *testing.T) {
	for _, used := range "ABC" {
		for at, template := range []string{"A=?p;B=b;C=s;p", "A=p;B=b?;C=s;p", "A=p;B=b;C=(?)2;p", "A=p;B=b;C=s;?", "A=p;B=b;C=s;(b?)2p"} {
			s := strings.Replace(template, "?", string(used), 1)
			if got := checkWords(t, s); got != (int(used-'A') < at) {
				t.Errorf("IsWords(%q) is %v", s, got)
			}
		}
	}
}

func TestNamesInIsNew(t *testing.T) {
	for _, s := range append(randomPrograms(50), "A=p;C=b;AC") {
		names, _ := impl.NamesIn(s)
		want := slices.Clone(names)
		overwrite(names)
		if again, ok := impl.NamesIn(s); !ok || !slices.Equal(again, want) {
			t.Errorf("NamesIn(%q) is %q after another is overwritten", s, again)
		}
	}
}

func TestPartsKnown(t *testing.T) {
	for touch, want := range map[string]string{
		"p": "p", "b": "b", "s": "s", "pb": "pb", "pp": "(p)2", "bbb": "(b)3", "pbpb": "(pb)2", "pbpbp": "pbpbp", "pbbp": "pbbp", "bpbpbp": "(bp)3", "ppbppb": "(ppb)2", "pppppb": "pppppb",
		"psbpsbpsbpsb": "(psb)4", "pbpbpbpbpb": "(pb)5", "pppppp": "(p)6", "ssssssss": "(s)8", "ppppppppp": "(p)9", "pppppppppp": "pppppppppp", "ppppppppppp": "ppppppppppp",
		"pbpspbps": "(pbps)2", "pbpspbpb": "pbpspbpb", strings.Repeat("pb", 9): "(pb)9", strings.Repeat("pb", 10): strings.Repeat("pb", 10), strings.Repeat("pbs", 20): strings.Repeat("pbs", 20),
		strings.Repeat("p", 60): strings.Repeat("p", 60), strings.Repeat("ppppps", 9): "(ppppps)9", strings.Repeat("ppppps", 10): strings.Repeat("ppppps", 10), strings.Repeat("b", 59): strings.Repeat("b", 59),
		strings.Repeat("p", 29) + "b" + strings.Repeat("p", 29) + "b": "(" + strings.Repeat("p", 29) + "b)2",
	} {
		if printed := mustPrintParts(t, touch); printed != want {
			t.Errorf("PrintParts(%q) is %q", touch, printed)
		}
		checkParts(t, touch)
	}
}

func TestPartsByTheWords(t *testing.T) {
	for length := 1; length <= 8; length++ {
		for _, touch := range shortTouches(length) {
			checkParts(t, touch)
		}
	}
	for _, touch := range append(randomTouches(5), turningTouches()...) {
		checkParts(t, touch)
	}
	// Every number of parts with every length of a part, and with one call changed.
	for _, part := range append(randomTouches(2), shortTouches(4)...) {
		for times := 1; times*len(part) <= 60; times++ {
			touch := strings.Repeat(part, times)
			checkParts(t, touch)
			for _, call := range letters {
				checkParts(t, call+touch[1:])
				checkParts(t, touch[:len(touch)-1]+call)
				checkParts(t, touch[:len(touch)/2]+call+touch[len(touch)/2+1:])
			}
		}
	}
}

func TestPartsOfBadTouches(t *testing.T) {
	for _, s := range append(badTouches(), "A=p;A", "(p)2", "p61", "b4 b2", strings.Repeat("pb", 31), strings.Repeat("pbs", 27)) {
		if printed, ok := impl.PrintParts(s); printed != "" || ok {
			t.Errorf("PrintParts(%q) is %q, %v", s, printed, ok)
		}
	}
}

func TestCallingsOfTheDocument(t *testing.T) {
	m, k := plainBob(), impl.Calls{Bob: "14", Single: "12"}
	checkCallingText(t, m, k, "pbppb", 2, "b4 b2")
	checkCallingText(t, m, k, "pp", 2, "p2")
	checkCallingText(t, m, k, "pppb", 2, "b2+1")
	checkNoCalling(t, m, k, "b1", 2)
}

func TestCallingsKnown(t *testing.T) {
	m, k := plainBob(), impl.Calls{Bob: "14", Single: "12"}
	plain := strings.Repeat("p", 60)
	for _, known := range []struct {
		touch string
		bell  int
		text  string
	}{
		{"b", 2, "b2"}, {"pb", 2, "b4"}, {"ppb", 2, "b3"}, {"s", 2, "s4"}, {"ps", 2, "s3"}, {"pps", 2, "s2"}, {"ppps", 2, "s4+1"}, {"b", 3, "b3"}, {"b", 4, "b4"}, {"b", 1, "b1"},
		{"bb", 2, "b2 b2"}, {"bs", 2, "b2 s4"}, {"sb", 2, "s4 b4"}, {"spb", 2, "s4 b3"}, {"sppb", 2, "s4 b2"}, {"spppb", 2, "s4 b4+1"}, {"bp", 2, "b2 p1"}, {"bpp", 3, "b3 p2"}, {"pbp", 2, "b4 p1"},
		{"pb", 1, "b1+1"}, {"ppb", 1, "b1+2"}, {"pbppb", 1, "b1+1 b1+2"}, {"pspb", 1, "s1+1 b1+1"}, {plain[:10] + "b", 1, "b1+10"}, {plain[:59] + "s", 1, "s1+59"}, {plain[:29] + "b" + plain[:29] + "s", 1, "b1+29 s1+29"},
		{"p", 2, "p1"}, {"p", 1, "p1"}, {plain[:9], 4, "p9"}, {plain[:10], 4, "p10"}, {plain[:59], 3, "p59"}, {plain, 2, "p60"}, {plain, 1, "p60"}, {"b" + plain[:59], 2, "b2 p59"}, {plain[:58] + "bp", 3, "b2+19 p1"},
		{plain[:27] + "b", 2, "b2+9"}, {plain[:30] + "b", 2, "b2+10"}, {plain[:57] + "b", 2, "b2+19"}, {plain[:58] + "b", 2, "b4+19"}, {plain[:59] + "b", 2, "b3+19"}, {plain[:59] + "s", 2, "s2+19"},
		{strings.Repeat("b", 60), 2, "b2" + strings.Repeat(" b2", 59)}, {strings.Repeat("pb", 30), 1, "b1+1" + strings.Repeat(" b1+1", 29)},
	} {
		if want := plainCalling(m, k, known.touch, known.bell); want != known.text {
			t.Fatalf("by the words of the document %q is %q", known.touch, want)
		}
		checkCallingText(t, m, k, known.touch, known.bell, known.text)
	}
}

// A course of five leads: the tenor is at each of its five places after one of the bobs.
func TestCallingsOfPlainBobMinor(t *testing.T) {
	m := impl.Method{Name: "plain", Stage: 6, Changes: []string{"-", "16", "-", "16", "-", "16", "-", "16", "-", "16", "-", "12"}}
	k := impl.Calls{Bob: "14", Single: "1234"}
	for touch, text := range map[string]string{
		"ppppb": "b6", "b": "b5", "pb": "b4", "ppb": "b3", "pppb": "b2", "pppppb": "b5+1", "ppppbppppb": "b6 b6", "pppps": "s6", "s": "s5", "ppppbs": "b6 s5",
		strings.Repeat("ppppb", 3): "b6 b6 b6", "bppps": "b5 s6", "pbppppp": "b4 p5", "ppppp": "p5",
	} {
		checkCallingText(t, m, k, touch, 6, text)
	}
}

func TestCallingsByTheWords(t *testing.T) {
	touches := append(randomTouches(2), turningTouches()...)
	at := 0
	for n := 3; n <= 8; n++ {
		for i, m := range methodsOf(n) {
			k := callsFor(m)[i%6]
			checkCalling(t, m, k, touches[at%len(touches)], 1+at%n)
			at++
		}
		for _, m := range methodsWith(n, randomLists(n, 1)) {
			for _, k := range callsFor(m) {
				for bell := 1; bell <= n; bell++ {
					checkCalling(t, m, k, touches[at%len(touches)], bell)
					at++
				}
			}
		}
	}
}

// sparseTouches have few calls, so that bells come to a place again and again between them.
func sparseTouches() []string {
	source := rand.New(rand.NewSource(110))
	var touches []string
	for length := 1; length <= 60; length++ {
		for range 3 {
			touch := []byte(strings.Repeat("p", length))
			for range source.Intn(5) {
				touch[source.Intn(length)] = "bs"[source.Intn(2)]
			}
			touches = append(touches, string(touch))
		}
	}
	return touches
}

func TestCallingsWithFewCalls(t *testing.T) {
	touches := sparseTouches()
	again, twoDigits, tails := 0, 0, 0
	for n := 3; n <= 8; n++ {
		for i, m := range methodsWith(n, randomLists(n, 1)) {
			k := callsFor(m)[i%6]
			for bell := 1; bell <= n; bell++ {
				for j := (i + bell) % 9; j < len(touches); j += 9 {
					checkCalling(t, m, k, touches[j], bell)
					text, _ := impl.CallingText(m, k, touches[j], bell)
					plus := strings.Index(text, "+")
					if plus >= 0 {
						again++
					}
					if plus >= 0 && plus+2 < len(text) && text[plus+2] != ' ' {
						twoDigits++
					}
					if strings.Contains(text, " p") {
						tails++
					}
				}
			}
		}
	}
	if again < 1000 || twoDigits < 500 || tails < 1000 {
		t.Errorf("%d callings with earlier leads, %d with ten or more, %d that end with plain leads", again, twoDigits, tails)
	}
}

func TestAllShortTouchesHaveTheirOwnCalling(t *testing.T) {
	for n := 3; n <= 8; n++ {
		for _, m := range methodsWith(n, randomLists(n, 1))[n : n+2] {
			for i, k := range callsFor(m) {
				bell := 1 + i%n
				seen := map[string]bool{}
				for length := 1; length <= 5; length++ {
					for _, touch := range shortTouches(length) {
						checkCalling(t, m, k, touch, bell)
						text, _ := impl.CallingText(m, k, touch, bell)
						if seen[text] {
							t.Fatalf("two touches are called %q", text)
						}
						seen[text] = true
					}
				}
			}
		}
	}
}

func TestCallingsOfPlainLeadsOnly(t *testing.T) {
	for n := 3; n <= 8; n++ {
		for i, m := range methodsWith(n, randomLists(n, 1)) {
			k, bell := callsFor(m)[i%6], 1+i%n
			for leads := 1; leads <= 60; leads++ {
				checkCallingText(t, m, k, strings.Repeat("p", leads), bell, "p"+strconv.Itoa(leads))
			}
			for _, s := range []string{"p0", "p61", "p62", "p99", "p100", "p600", "p01", "p060", "p", "p-1", "p+1", "p+60", "p1 ", "p 1", "p1 p1", "p2 p3", "p9223372036854775808", "p18446744073709551617", "p4294967297"} {
				checkNoCalling(t, m, k, s, bell)
			}
		}
	}
}

// badCallings are texts that no touch of the document's method has as calling with bell 2.
func badCallings() []string {
	texts := []string{
		"", " ", "  ", "b", "s", "p", "4", "x", "x4", "B4", "S4", "P2", "-4", "a4", "b1", "b5", "b8", "b9", "b0", "b00", "b22", "b44", "b4.", "b4,", "b4;", "b4-1",
		"b04", "b+4", "b-4", "b 4", " b4", "b4 ", "b4\n", "\tb4", "b4\x00", "\x00b4", "4b", "44", "b4b2", "b4,b2", "b4.b2", "b4-b2", "b4\tb2", "b4\nb2", "b4  b2", "b4 b2 ", " b4 b2", "b4 b", "b4 2", "b4 b 2", "b b4",
		"b4+", "b4+0", "b4+00", "b4+01", "b4+001", "b4++1", "b4+-1", "b4-+1", "b4+ 1", "b4 +1", "b4 + 1", "b+1", "b4+1+1", "b4+1+", "+1", "b04+1", "b4+a", "b4+1a", "b4+x", "b4+1.0", "b4+1e0", "b4+0x1",
		"b2+20", "b4+20", "b3+20", "b2+21", "b2+99", "b2+100", "s2+20", "s4+20", "s3+20", "b2+60", "b1+1", "b5+1", "b2+9223372036854775808", "b2+18446744073709551617", "b18446744073709551620", "b4294967300",
		"p0", "p00", "p02", "p2 ", " p2", "p61", "p100", "p+2", "p-2", "p2 b4", "p2 s3", "p1 b4", "p1 p1", "p2 p2", "b4 p1 p1", "b4 p1 b2", "b4 p", "b4 p0", "b4 p01", "b4 p+1", "b4 P1", "p4+1", "p2+1", "pp", "ppb", "b4 pp", "pbppb",
		"b2 p60", "b4 p59", "b2+19 p3", "b3+19 p1", "b3+19 b2", "b2+19 b4 b4", "b2+19 b2 b2 b2", "b3+19 s4", "b2 b3+19", "b2 p59 p1", "b2 b2 p59",
		"b\u0664", "b\uff14", "b\u00b2", "b4\u00a0b2", "b4\u2003b2", "\u042c4", "b4\u0301", "b4+\u0661", "\xff", "b\xff", "b4 \xff", "b\xb4", "b4\xa0b2",
		strings.Repeat("b2 ", 60), strings.Repeat("b2 ", 60) + "b2", strings.Repeat("b2 ", 60) + "p1", strings.Repeat("b2 ", 65) + "b2", strings.Repeat("b2 ", 66) + "b2", strings.Repeat("b2 ", 67) + "b2",
		strings.Repeat("b2 ", 1<<16) + "b2", strings.Repeat(" ", 200), strings.Repeat(" ", 1<<16), "b" + strings.Repeat("4", 199), "p" + strings.Repeat("1", 199), "p" + strings.Repeat("0", 198) + "2", "b2+" + strings.Repeat("0", 196) + "1",
		"b" + strings.Repeat("0", 198) + "4", strings.Repeat("b3+19 ", 33) + "p1",
	}
	for letter := range 256 {
		one := string([]byte{byte(letter)})
		if letter < '2' || letter > '4' {
			texts = append(texts, "b"+one, "s"+one)
		}
		if letter != 'b' && letter != 's' {
			texts = append(texts, one+"4", "b4 "+one+"4b", one+"4 b2")
		}
		if letter != ' ' {
			texts = append(texts, "b4"+one+"b2")
		}
		if letter != '+' {
			texts = append(texts, "b4"+one+"1")
		}
	}
	return slices.DeleteFunc(texts, func(s string) bool { return s == "p4" })
}

func TestTextsThatAreNoCallings(t *testing.T) {
	m, k := plainBob(), impl.Calls{Bob: "14", Single: "12"}
	for _, s := range badCallings() {
		checkNoCalling(t, m, k, s, 2)
	}
	// Bell 1 is at its own place after every lead.
	for _, s := range []string{"b2", "s3", "b4", "b1+0", "b1+60", "b1+59 b1", "b1+29 b1+30", "b1+59 p1", "b0", "b1 b2", "b1 p60", "b1+1 p59"} {
		checkNoCalling(t, m, k, s, 1)
	}
}

// shortCallings are all callings of touches with at most two calls, of which the second one ends the touch, and the touches.
func shortCallings(m impl.Method, k impl.Calls, bell int) map[string]string {
	callings := map[string]string{}
	for first := range 61 {
		plain := strings.Repeat("p", first)
		if first > 0 {
			callings[plainCalling(m, k, plain, bell)] = plain
		}
		for _, call := range letters[1:] {
			for second := 0; first+1+second <= 60; second++ {
				touch := plain + call + strings.Repeat("p", second)
				callings[plainCalling(m, k, touch, bell)] = touch
				for _, last := range letters[1:] {
					if len(touch) < 60 {
						callings[plainCalling(m, k, touch+last, bell)] = touch + last
					}
				}
			}
		}
	}
	return callings
}

// Texts of up to five bytes describe at most two calls.
func TestAllShortTextsAsCallings(t *testing.T) {
	m, k := plainBob(), impl.Calls{Bob: "14", Single: "12"}
	for bell := 1; bell <= 2; bell++ {
		callings := shortCallings(m, k, bell)
		count := 0
		for length := range 6 {
			for _, s := range textsOver("bsp 0124+", length) {
				touch, ok := impl.ReadCalling(m, k, s, bell)
				if want, is := callings[s]; touch != want || ok != is {
					t.Fatalf("ReadCalling(%q, %d) is %q, %v", s, bell, touch, ok)
				}
				if ok {
					count++
				}
			}
		}
		if count < 20 {
			t.Errorf("only %d callings of up to five bytes with bell %d", count, bell)
		}
	}
}

func TestAlteredCallings(t *testing.T) {
	touches := append(randomTouches(1), sparseTouches()...)
	are, areNot := 0, 0
	for n := 3; n <= 8; n++ {
		for i, m := range methodsWith(n, randomLists(n, 1)[:12]) {
			k, bell := callsFor(m)[(i+4)%6], 1+i%n
			touch := touches[(i*17+n)%len(touches)]
			for _, s := range altered(plainCalling(m, k, touch, bell), "bsp 0125+") {
				if checkAnyCalling(t, m, k, s, bell) {
					are++
				} else {
					areNot++
				}
			}
		}
	}
	if are < 1000 || areNot < 1000 {
		t.Errorf("%d texts are callings and %d are not", are, areNot)
	}
}

func TestCallingsOfTheMostCalls(t *testing.T) {
	for n := 3; n <= 8; n++ {
		for i, m := range methodsWith(n, randomLists(n, 1)) {
			k, bell := callsFor(m)[i%6], 1+i%n
			for _, touch := range []string{strings.Repeat("b", 60), strings.Repeat("pbs", 20), strings.Repeat("p", 59) + "s", "s" + strings.Repeat("p", 59), randomTouches(1)[59], sparseTouches()[179]} {
				checkCalling(t, m, k, touch, bell)
				// The same positions once more would be those of too many calls.
				text := plainCalling(m, k, touch, bell)
				for _, more := range []string{" p1", " " + plainCalling(m, k, touch+"b", bell)[strings.LastIndex(plainCalling(m, k, touch+"b", bell), " ")+1:], " " + text} {
					checkNoCalling(t, m, k, text+more, bell)
				}
				for _, call := range letters {
					if results := callCallingFunctions(m, k, touch+call, bell); !allZero(results) {
						t.Fatalf("with %v, %v and 61 calls the functions return %v", m, k, results)
					}
				}
			}
		}
	}
}

func TestCallingsOfBellsThatDoNotExist(t *testing.T) {
	for n := 3; n <= 8; n++ {
		m := methodsWith(n, randomLists(n, 1))[5]
		for _, k := range callsFor(m) {
			for _, bell := range []int{math.MinInt, -n, -1, 0, n + 1, n + 2, 9, 10, 48 + n, 256 + n, 1<<32 + 1, math.MaxInt} {
				for _, s := range []string{"p", "pb", "pbppb", "sss", "p1", "p2", "b1", "s2", "b4 b2", "b9", "b0", "b10", "b" + strconv.Itoa(n+1)} {
					if results := callCallingFunctions(m, k, s, bell); !allZero(results) {
						t.Fatalf("with %v, %v, %q and bell %d the functions return %v", m, k, s, bell, results)
					}
				}
			}
		}
	}
}

func TestCallingsOfBadTouches(t *testing.T) {
	for i, touch := range badTouches() {
		n := 3 + i%6
		m := methodsWith(n, listsOf(n, 2))[i%2]
		if text, ok := impl.CallingText(m, callsFor(m)[i%6], touch, 1+i%n); text != "" || ok {
			t.Errorf("CallingText(%v, %q) is %q, %v", m, touch, text, ok)
		}
	}
}

func TestCallingsWithBadCalls(t *testing.T) {
	touches := randomTouches(1)
	for n := 3; n <= 8; n++ {
		m := methodsWith(n, randomLists(n, 1))[5]
		for i, k := range badPairs(n) {
			// A call that is not used must be valid too.
			for _, s := range []string{"p", "pp", "p1", "p60", "b1", "s1", letters[i%3], touches[i%len(touches)]} {
				if results := callCallingFunctions(m, k, s, 1+i%n); !allZero(results) {
					t.Errorf("with %v, %q and %q the functions return %v", m, k, s, results)
				}
			}
		}
	}
}

func TestCallingsOfBadMethods(t *testing.T) {
	texts := []string{"p", "b", "pbs", "ppb", "p1", "p2", "b1", "b2", "b4 b2", "s1+1", ""}
	for i, m := range badMethods() {
		for j, k := range pairsOfStage(m.Stage) {
			for bell := range 4 {
				if results := callCallingFunctions(m, k, texts[(i+j+bell)%len(texts)], bell); !allZero(results) {
					t.Errorf("with %v, %q and bell %d the functions return %v", m, k, bell, results)
				}
			}
		}
	}
}

func TestWordsFunctionsAcceptAllArguments(t *testing.T) {
	methods, pairs := allMethodsAndPairs()
	texts := slices.Concat(badPrograms(), badCallings(), badTouches(), longestPrograms(), randomPrograms(200), randomTouches(2), sparseTouches())
	bells := []int{1, 2, 3, 4, 5, 6, 7, 8, 0, -1, 9, math.MinInt, math.MaxInt}
	for i, s := range texts {
		m, k, bell := methods[i%len(methods)], pairs[i%len(pairs)], bells[i%len(bells)]
		changes, back := withSpareRows(m.Changes)
		kept := slices.Clone(back)
		given := impl.Method{Name: m.Name, Stage: m.Stage, Changes: changes}
		first := append(callCallingFunctions(given, k, s, bell), callWordsFunctions(s)...)
		again := append(callCallingFunctions(given, k, s, bell), callWordsFunctions(s)...)
		if !reflect.DeepEqual(first, again) {
			t.Fatalf("calls with %v, %q, %q and bell %d return %v and then %v", m, k, s, bell, first, again)
		}
		if !impl.SameMethod(given, m) || !slices.Equal(back, kept) {
			t.Fatalf("arguments are changed: %q", kept)
		}
	}
}

func TestCallingsLeaveArgumentsAlone(t *testing.T) {
	k := impl.Calls{Bob: "14", Single: "1234"}
	for i, touch := range randomTouches(1) {
		changes, back := withSpareRows([]string{"-", "14", "-", "16", "-", "12"})
		kept := slices.Clone(back)
		m := impl.Method{Name: "a", Stage: 6, Changes: changes}
		text, _ := impl.CallingText(m, k, touch, 1+i%6)
		read, _ := impl.ReadCalling(m, k, text, 1+i%6)
		if !slices.Equal(back, kept) {
			t.Fatalf("the changes become %q", back)
		}
		want := plainCalling(m, k, touch, 1+i%6)
		overwrite(back)
		if text != want || read != touch {
			t.Errorf("results become %q and %q with the changes", text, read)
		}
	}
}

func FuzzWordsFunctions(f *testing.F) {
	f.Add("plain", 4, "- 14 - 14 - 14 - 12", "14", "12", "b4 b2", 2)
	f.Add("plain", 4, "- 14 - 14 - 14 - 12", "14", "12", "pppb", 2)
	f.Add("abcdefghij", 5, "5 1 5 1 5 125", "145", "12345", "pppbpppbpppb", 5)
	f.Add("a", 3, "1", "3", "1", "A=ps;B=(A)2;BAb", 0)
	f.Add("a", 8, "- 18 - 18 - 18 - 18 - 18 - 18 - 18 - 12", "14", "1234", "s8+1 b3 p10", 8)
	f.Add("A", 8, "18", "", "-", "((pppp)9)9", -1)
	f.Fuzz(func(t *testing.T, name string, n int, changes, bob, single, s string, bell int) {
		m := impl.Method{Name: name, Stage: n, Changes: strings.Fields(changes)}
		k := impl.Calls{Bob: bob, Single: single}
		checkWords(t, s)
		results := callCallingFunctions(m, k, s, bell)
		if plainIsTouch(s) {
			checkParts(t, s)
		}
		if !impl.GoodCalls(m, k) || bell < 1 || bell > n {
			if !allZero(results) {
				t.Fatalf("with %v, %q, %q and bell %d the functions return %v", m, k, s, bell, results)
			}
			return
		}
		if plainIsTouch(s) {
			checkCalling(t, m, k, s, bell)
		} else {
			checkAnyCalling(t, m, k, s, bell)
		}
	})
}
