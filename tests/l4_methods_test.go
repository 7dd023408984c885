package tests

import (
	"math"
	"math/rand"
	"reflect"
	"slices"
	"strings"
	"testing"

	"loop.example/g00894/impl"
)

// plainBob is the method of the document's example.
func plainBob() impl.Method {
	return impl.Method{Name: "plain", Stage: 4, Changes: []string{"-", "14", "-", "14", "-", "14", "-", "12"}}
}

// methodsWith makes a method of each list, under names of all lengths.
func methodsWith(n int, lists [][]string) []impl.Method {
	names := []string{"a", "z", "az", "plain", "abcdefghij", "klmnopqrst", "uvwxyz", "zzzzzzzzzz"}
	var methods []impl.Method
	for i, l := range lists {
		methods = append(methods, impl.Method{Name: names[i%len(names)], Stage: n, Changes: l})
	}
	return methods
}

// methodsOf makes methods of a stage: all short ones, and others of every length up to 40 changes.
func methodsOf(n int) []impl.Method {
	longest := map[int]int{3: 7, 4: 4, 5: 3, 6: 2, 7: 2, 8: 1}
	return methodsWith(n, slices.Concat(listsOf(n, longest[n]), randomLists(n, 5), mirroredLists(n)))
}

func copyOf(m impl.Method) impl.Method {
	m.Changes = slices.Clone(m.Changes)
	return m
}

// plainLead is the rows of a lead and the row to which its last change leads, by the words of the document.
func plainLead(m impl.Method, from string) []string {
	rows := []string{from}
	for _, c := range m.Changes {
		swapped, _ := plainChangeRow(m.Stage, c)
		from = plainProduct(from, swapped)
		rows = append(rows, from)
	}
	return rows
}

// plainCourse is the rows of all leads until one leads to rounds, and the number of these leads.
func plainCourse(m impl.Method) ([]string, int) {
	var rows []string
	head := rounds8[:m.Stage]
	for leads := 1; ; leads++ {
		lead := plainLead(m, head)
		rows = append(rows, lead[:len(m.Changes)]...)
		head = lead[len(m.Changes)]
		if head == rounds8[:m.Stage] {
			return rows, leads
		}
	}
}

// plainAtHome is the bells that are in their own places in every one of the rows.
func plainAtHome(rows []string) []int {
	var bells []int
	for i := range rows[0] {
		if !slices.ContainsFunc(rows, func(r string) bool { return r[i] != rounds8[i] }) {
			bells = append(bells, i+1)
		}
	}
	return bells
}

func badNames() []string {
	return []string{
		"", "A", "Z", "aA", "Plain", "plaiN", "a1", "1", "0", "a b", " a", "a ", "a\n", "a-b", "a.b", "a_", "`", "a`", "{", "{a", "[", "@",
		"abcdefghijk", "abcdefghij ", strings.Repeat("a", 11), strings.Repeat("a", 1000),
		"\x00", "a\x00", "\xff", "a\xff", "\xe1", "\u00e9", "a\u00df", "\uff41", "\u0430", "a\u0301", "\u017f",
	}
}

// badMethods are methods each of which has one fault at least.
func badMethods() []impl.Method {
	methods := []impl.Method{{}, {Name: "a"}, {Stage: 4}, {Name: "a", Stage: 4}, {Changes: []string{"-"}}, {Name: "a", Changes: []string{"-"}}, {Stage: 4, Changes: []string{"-"}}}
	for _, name := range badNames() {
		methods = append(methods, impl.Method{Name: name, Stage: 4, Changes: []string{"-", "14"}})
	}
	for _, n := range badStages() {
		methods = append(methods, methodsWith(n, [][]string{{"-"}, {"1"}, {"3"}, {"14"}, {"-", "12"}, {"1", "3", "1"}})...)
	}
	for n := 3; n <= 8; n++ {
		methods = append(methods, methodsWith(n, badLists(n))...)
	}
	return append(methods, methodsWith(6, [][]string{{"18"}, {"1"}, {"-", "4"}, {"x", "14"}, {"-14"}, {"-", "14", "-", "18"}})...)
}

func mustHead(t *testing.T, m impl.Method) string {
	t.Helper()
	head, ok := impl.LeadHead(m)
	if !ok {
		t.Fatalf("LeadHead(%v) fails", m)
	}
	return head
}

func mustTurnMethod(t *testing.T, m impl.Method) impl.Method {
	t.Helper()
	turned, ok := impl.TurnMethod(m)
	if !ok {
		t.Fatalf("TurnMethod(%v) fails", m)
	}
	return turned
}

func mustStartAt(t *testing.T, m impl.Method, k int) impl.Method {
	t.Helper()
	rotated, ok := impl.StartAt(m, k)
	if !ok {
		t.Fatalf("StartAt(%v, %d) fails", m, k)
	}
	return rotated
}

func checkPalindrome(t *testing.T, m impl.Method, want bool) {
	t.Helper()
	if is, ok := impl.IsPalindrome(m); is != want || !ok {
		t.Errorf("IsPalindrome(%v) is %v, %v", m, is, ok)
	}
}

func TestMaxLead(t *testing.T) {
	if impl.MaxLead != 40 {
		t.Error("MaxLead is", impl.MaxLead)
	}
}

func TestMethodOfTheDocument(t *testing.T) {
	m := plainBob()
	course := strings.Fields(`
		1234 2143 2413 4231 4321 3412 3142 1324
		1342 3124 3214 2341 2431 4213 4123 1432
		1423 4132 4312 3421 3241 2314 2134 1243`)
	if rows, ok := impl.CourseRows(m); !ok || !slices.Equal(rows, course) {
		t.Errorf("CourseRows is %q, %v", rows, ok)
	}
	if rows, ok := impl.LeadRows(m, "1234"); !ok || !slices.Equal(rows, course[:8]) {
		t.Errorf("LeadRows is %q, %v", rows, ok)
	}
	if head, ok := impl.LeadHead(m); head != "1342" || !ok {
		t.Errorf("LeadHead is %q, %v", head, ok)
	}
	if leads, ok := impl.LeadsIn(m); leads != 3 || !ok {
		t.Errorf("LeadsIn is %d, %v", leads, ok)
	}
	if bells, ok := impl.HuntBells(m); !ok || !slices.Equal(bells, []int{1}) {
		t.Errorf("HuntBells is %d, %v", bells, ok)
	}
	if bells, ok := impl.StillBells(m); !ok || len(bells) != 0 {
		t.Errorf("StillBells is %d, %v", bells, ok)
	}
	checkPalindrome(t, m, true)
}

func TestGoodMethod(t *testing.T) {
	for n := 3; n <= 8; n++ {
		for _, m := range methodsOf(n) {
			if !impl.GoodMethod(m) {
				t.Fatalf("GoodMethod(%v) is false", m)
			}
		}
	}
	for _, m := range badMethods() {
		if impl.GoodMethod(m) {
			t.Errorf("GoodMethod(%v) is true", m)
		}
	}
}

func TestNamesOfAMethod(t *testing.T) {
	m := plainBob()
	for length := range 13 {
		for letter := range 256 {
			// The letter stands at the end, where it also decides whether all bytes are looked at.
			m.Name = strings.Repeat("m", max(0, length-1)) + string([]byte{byte(letter)})[:min(1, length)]
			want := length >= 1 && length <= 10 && letter >= 'a' && letter <= 'z'
			if good := impl.GoodMethod(m); good != want {
				t.Errorf("GoodMethod with the name %q is %v", m.Name, good)
			}
		}
	}
}

func TestNumberOfChanges(t *testing.T) {
	for n := 3; n <= 8; n++ {
		for length := range 45 {
			m := impl.Method{Name: "a", Stage: n, Changes: repeated(changesOf(n)[0], length)}
			if good := impl.GoodMethod(m); good != (length >= 1 && length <= 40) {
				t.Errorf("GoodMethod with %d changes is %v", length, good)
			}
		}
	}
}

func TestEachChangeOfAMethodIsOfItsStage(t *testing.T) {
	for n := 3; n <= 8; n++ {
		for other := 3; other <= 8; other++ {
			for _, c := range changesOf(other) {
				want := slices.Contains(changesOf(n), c)
				for at := range 3 {
					m := impl.Method{Name: "a", Stage: n, Changes: repeated(changesOf(n)[1], 3)}
					m.Changes[at] = c
					if good := impl.GoodMethod(m); good != want {
						t.Errorf("GoodMethod(%v) is %v", m, good)
					}
				}
			}
		}
	}
}

func TestRowsOfALeadDifferByItsChanges(t *testing.T) {
	for n := 3; n <= 8; n++ {
		starts := someRows(n, 6)
		for i, m := range methodsOf(n) {
			from := starts[i%len(starts)]
			rows, ok := impl.LeadRows(m, from)
			if !ok || len(rows) != len(m.Changes) || rows[0] != from {
				t.Fatalf("LeadRows(%v, %q) is %q, %v", m, from, rows, ok)
			}
			next := mustTimes(t, from, mustHead(t, m))
			for j, row := range append(slices.Clone(rows), next)[1:] {
				if c, ok := impl.BetweenRows(rows[j], row); !ok || c != m.Changes[j] {
					t.Fatalf("from %q to %q change %d of %v is %q, %v", rows[j], row, j, m, c, ok)
				}
			}
		}
	}
}

func TestLeadRowsAndHeadsByTheWords(t *testing.T) {
	for n := 3; n <= 8; n++ {
		starts := someRows(n, 4)
		for _, m := range methodsOf(n) {
			if head := mustHead(t, m); head != plainLead(m, rounds8[:n])[len(m.Changes)] {
				t.Fatalf("LeadHead(%v) is %q", m, head)
			}
			for _, from := range starts {
				want := plainLead(m, from)[:len(m.Changes)]
				if rows, ok := impl.LeadRows(m, from); !ok || !slices.Equal(rows, want) {
					t.Fatalf("LeadRows(%v, %q) is %q, %v", m, from, rows, ok)
				}
			}
		}
	}
}

func TestLeadOfOneChange(t *testing.T) {
	for n := 3; n <= 8; n++ {
		for _, c := range changesOf(n) {
			m := impl.Method{Name: "a", Stage: n, Changes: []string{c}}
			want, _ := plainChangeRow(n, c)
			rounds := rounds8[:n]
			if head := mustHead(t, m); head != want {
				t.Errorf("LeadHead(%v) is %q", m, head)
			}
			if rows, ok := impl.LeadRows(m, want); !ok || !slices.Equal(rows, []string{want}) {
				t.Errorf("LeadRows(%v, %q) is %q, %v", m, want, rows, ok)
			}
			if leads, ok := impl.LeadsIn(m); leads != 2 || !ok {
				t.Errorf("LeadsIn(%v) is %d, %v", m, leads, ok)
			}
			if rows, ok := impl.CourseRows(m); !ok || !slices.Equal(rows, []string{rounds, want}) {
				t.Errorf("CourseRows(%v) is %q, %v", m, rows, ok)
			}
			if same := mustStartAt(t, m, 0); !impl.SameMethod(same, m) || !impl.SameMethod(mustTurnMethod(t, m), m) {
				t.Errorf("%v is altered", m)
			}
			checkPalindrome(t, m, true)
		}
	}
}

func TestReversalLeadsBack(t *testing.T) {
	for n := 3; n <= 8; n++ {
		starts := someRows(n, 6)
		for i, m := range methodsOf(n) {
			turned := mustTurnMethod(t, m)
			if turned.Name != m.Name || turned.Stage != n || !slices.Equal(mustTurnMethod(t, turned).Changes, m.Changes) {
				t.Fatalf("TurnMethod(%v) is %v", m, turned)
			}
			for j, c := range turned.Changes {
				if c != m.Changes[len(m.Changes)-1-j] {
					t.Fatalf("TurnMethod(%v) is %v", m, turned)
				}
			}
			head := mustHead(t, m)
			if back, ok := impl.TurnRow(head); !ok || mustHead(t, turned) != back {
				t.Fatalf("heads of %v and of its reversal are %q and %q", m, head, mustHead(t, turned))
			}
			// Rung from the next lead head, the reversal visits the rows of the lead from its end.
			from := starts[i%len(starts)]
			there, _ := impl.LeadRows(m, from)
			back, _ := impl.LeadRows(turned, mustTimes(t, from, head))
			slices.Reverse(back)
			if !slices.Equal(append(there[1:], mustTimes(t, from, head)), back) {
				t.Fatalf("%v leads from %q through %q and back through %q", m, from, there, back)
			}
		}
	}
}

func TestCourseReturnsToRounds(t *testing.T) {
	for n := 3; n <= 8; n++ {
		rounds := rounds8[:n]
		for _, m := range methodsOf(n) {
			want, wantLeads := plainCourse(m)
			leads, ok := impl.LeadsIn(m)
			order, _ := impl.OrderOf(mustHead(t, m))
			if !ok || leads != wantLeads || leads != order {
				t.Fatalf("LeadsIn(%v) is %d, %v", m, leads, ok)
			}
			rows, ok := impl.CourseRows(m)
			if !ok || !slices.Equal(rows, want) || len(rows) != leads*len(m.Changes) {
				t.Fatalf("CourseRows(%v) is %q, %v", m, rows, ok)
			}
			if last := mustApply(t, rows[len(rows)-1], m.Changes[len(m.Changes)-1]); last != rounds || rows[0] != rounds {
				t.Fatalf("the course of %v ends with %q", m, last)
			}
			for k := range leads {
				power, _ := impl.PowerOf(mustHead(t, m), k)
				lead, _ := impl.LeadRows(m, power)
				if start := k * len(m.Changes); !slices.Equal(lead, rows[start:start+len(m.Changes)]) {
					t.Fatalf("lead %d of the course of %v is not %q", k, m, lead)
				}
			}
		}
	}
}

// longestMethod finds a method of 40 changes whose lead head has a given order.
func longestMethod(n int, order int) impl.Method {
	source := rand.New(rand.NewSource(int64(n)))
	changes := changesOf(n)
	for {
		m := impl.Method{Name: "longest", Stage: n, Changes: repeated("", 40)}
		for i := range m.Changes {
			m.Changes[i] = changes[source.Intn(len(changes))]
		}
		if _, leads := plainCourse(m); leads == order {
			return m
		}
	}
}

// No course is longer than 600 rows, as no row of up to eight bells has an order above 15: MaxRows is out of reach.
func TestLongestCourses(t *testing.T) {
	orders := map[int]int{3: 3, 4: 4, 5: 6, 6: 6, 7: 12, 8: 15}
	for n := 3; n <= 8; n++ {
		for _, row := range rowsOf(n) {
			if order, _ := impl.OrderOf(row); order > orders[n] {
				t.Fatalf("OrderOf(%q) is %d", row, order)
			}
		}
		m := longestMethod(n, orders[n])
		want, _ := plainCourse(m)
		if rows, ok := impl.CourseRows(m); !ok || len(rows) != 40*orders[n] || len(rows) > impl.MaxRows || !slices.Equal(rows, want) {
			t.Errorf("CourseRows(%v) has %d rows, %v", m, len(rows), ok)
		}
	}
}

func TestLeadHeadThatIsRounds(t *testing.T) {
	for n := 3; n <= 8; n++ {
		everyBell := plainAtHome([]string{rounds8[:n]})
		for i, l := range listsOf(n, 1) {
			there := slices.Concat(l, listsOf(n, 1)[0], listsOf(n, 1)[i])
			back := slices.Clone(there)
			slices.Reverse(back)
			m := impl.Method{Name: "round", Stage: n, Changes: slices.Concat(there, back)}
			if head := mustHead(t, m); head != rounds8[:n] {
				t.Fatalf("LeadHead(%v) is %q", m, head)
			}
			if leads, ok := impl.LeadsIn(m); leads != 1 || !ok {
				t.Errorf("LeadsIn(%v) is %d, %v", m, leads, ok)
			}
			lead, _ := impl.LeadRows(m, rounds8[:n])
			if rows, ok := impl.CourseRows(m); !ok || !slices.Equal(rows, lead) || len(rows) != 6 {
				t.Errorf("CourseRows(%v) is %q, %v", m, rows, ok)
			}
			if bells, ok := impl.HuntBells(m); !ok || !slices.Equal(bells, everyBell) {
				t.Errorf("HuntBells(%v) is %d, %v", m, bells, ok)
			}
		}
	}
}

func TestHuntAndStillBellsByTheWords(t *testing.T) {
	for n := 3; n <= 8; n++ {
		for _, m := range methodsOf(n) {
			rows := plainLead(m, rounds8[:n])
			hunt, ok := impl.HuntBells(m)
			if !ok || !slices.Equal(hunt, plainAtHome(rows[len(m.Changes):])) {
				t.Fatalf("HuntBells(%v) is %d, %v", m, hunt, ok)
			}
			still, ok := impl.StillBells(m)
			if !ok || !slices.Equal(still, plainAtHome(rows)) {
				t.Fatalf("StillBells(%v) is %d, %v", m, still, ok)
			}
		}
	}
}

func TestHuntAndStillBellsKnown(t *testing.T) {
	known := []struct {
		n           int
		changes     string
		hunt, still []int
	}{
		{4, "-", nil, nil},
		{4, "- -", []int{1, 2, 3, 4}, nil},
		{4, "12", []int{1, 2}, []int{1, 2}},
		{4, "34 34", []int{1, 2, 3, 4}, []int{3, 4}},
		{4, "12 34", nil, nil},
		{4, "14 12 14 12 14 12", []int{1, 2, 3, 4}, []int{1}},
		{4, "14 12", []int{1}, []int{1}},
		{5, "145 125", []int{1, 5}, []int{1, 5}},
		{5, "5 1", nil, nil},
		{5, "123 123 345 345", []int{1, 2, 3, 4, 5}, []int{3}},
		{6, "- 12 - 12", []int{1, 2, 3, 4, 5, 6}, nil},
		{6, "- 12 - 14", []int{1, 5, 6}, nil},
		{6, "1256 1236", []int{1, 2, 6}, []int{1, 2, 6}},
		{6, "1456 1456 1234 1234", []int{1, 2, 3, 4, 5, 6}, []int{1, 4}},
		{8, "123456 345678", []int{3, 4, 5, 6}, []int{3, 4, 5, 6}},
		{8, "- - 18 18", []int{1, 2, 3, 4, 5, 6, 7, 8}, nil},
		{3, "1 1 3", []int{3}, nil},
		{3, "1", []int{1}, []int{1}},
		{3, "3", []int{3}, []int{3}},
	}
	for _, k := range known {
		m := impl.Method{Name: "a", Stage: k.n, Changes: strings.Fields(k.changes)}
		if bells, ok := impl.HuntBells(m); !ok || !slices.Equal(bells, k.hunt) {
			t.Errorf("HuntBells(%v) is %d, %v", m, bells, ok)
		}
		if bells, ok := impl.StillBells(m); !ok || !slices.Equal(bells, k.still) {
			t.Errorf("StillBells(%v) is %d, %v", m, bells, ok)
		}
	}
}

func TestStartAtEveryIndex(t *testing.T) {
	for n := 3; n <= 8; n++ {
		for _, m := range methodsOf(n) {
			lead, _ := impl.LeadRows(m, rounds8[:n])
			for k, row := range lead {
				rotated := mustStartAt(t, m, k)
				if rotated.Name != m.Name || rotated.Stage != n || len(rotated.Changes) != len(lead) {
					t.Fatalf("StartAt(%v, %d) is %v", m, k, rotated)
				}
				for i, c := range rotated.Changes {
					if c != m.Changes[(k+i)%len(lead)] {
						t.Fatalf("StartAt(%v, %d) is %v", m, k, rotated)
					}
				}
				if again := mustStartAt(t, rotated, (len(lead)-k)%len(lead)); !impl.SameMethod(again, m) {
					t.Fatalf("StartAt(%v, %d) is not turned back by %v", m, k, again)
				}
				// The rotated lead from the row at which it begins ends where the next lead has that row.
				if mustTimes(t, row, mustHead(t, rotated)) != mustTimes(t, mustHead(t, m), row) {
					t.Fatalf("StartAt(%v, %d) has the head %q", m, k, mustHead(t, rotated))
				}
			}
		}
	}
}

func TestStartAtIndexesOutOfRange(t *testing.T) {
	for n := 3; n <= 8; n++ {
		for _, m := range methodsWith(n, randomLists(n, 1)) {
			length := len(m.Changes)
			for _, k := range []int{math.MinInt, -length - 1, -length, -2, -1, length, length + 1, 2 * length, 40, 41, math.MaxInt} {
				if k >= 0 && k < length {
					continue
				}
				if rotated, ok := impl.StartAt(m, k); ok || !reflect.DeepEqual(rotated, impl.Method{}) {
					t.Errorf("StartAt(%v, %d) is %v, %v", m, k, rotated, ok)
				}
			}
		}
	}
}

func TestIsPalindromeKnown(t *testing.T) {
	for changes, want := range map[string]bool{
		"14":                         true,
		"14 12":                      true,
		"14 14":                      true,
		"14 14 12":                   true,
		"14 12 14":                   false,
		"14 12 14 12":                true,
		"14 12 12 14":                false,
		"- 14 - 12":                  true,
		"- 14 - 12 -":                false,
		"- 14 14 - 12":               true,
		"- 14 - 14 - 14 - 12":        true,
		"- 14 - 14 - 16 - 12":        false,
		"- 14 - 36 - 14 - 12":        true,
		"- 14 - 36 14 - 12":          false,
		"12 - 14 - 14 - 14 -":        false,
		"16 - 16 - 16 - 16":          false,
		"- 36 - 14 - 12 - 14 - 36 -": false,
	} {
		checkPalindrome(t, impl.Method{Name: "a", Stage: 6, Changes: strings.Fields(changes)}, want)
	}
}

func TestIsPalindromeByTheWords(t *testing.T) {
	for n := 3; n <= 8; n++ {
		for _, m := range methodsOf(n) {
			l := slices.Clone(m.Changes[:len(m.Changes)-1])
			slices.Reverse(l)
			checkPalindrome(t, m, slices.Equal(l, m.Changes[:len(l)]))
		}
		for half, l := range randomLists(n, 1)[:20] {
			for _, c := range changesOf(n) {
				m := impl.Method{Name: "a", Stage: n, Changes: append(plainMirror(l), c)}
				checkPalindrome(t, m, true)
				if half > 0 {
					m.Changes[half-1] = otherChange(n, m.Changes[half-1])
					checkPalindrome(t, m, false)
				}
			}
		}
	}
}

// otherChange is a change of a stage other than c.
func otherChange(n int, c string) string {
	changes := changesOf(n)
	return changes[(slices.Index(changes, c)+1)%len(changes)]
}

func TestSameMethod(t *testing.T) {
	for n := 3; n <= 8; n++ {
		for _, m := range methodsWith(n, randomLists(n, 2)) {
			if !impl.SameMethod(m, m) || !impl.SameMethod(m, copyOf(m)) {
				t.Fatalf("%v is not the same as itself", m)
			}
			var others []impl.Method
			for _, alter := range []func(o *impl.Method){
				func(o *impl.Method) { o.Name += "a" },
				func(o *impl.Method) { o.Name = o.Name[1:] },
				func(o *impl.Method) { o.Name = strings.ToUpper(o.Name) },
				func(o *impl.Method) { o.Stage++ },
				func(o *impl.Method) { o.Stage = -o.Stage },
				func(o *impl.Method) { o.Changes = append(o.Changes, o.Changes[0]) },
				func(o *impl.Method) { o.Changes = o.Changes[1:] },
				func(o *impl.Method) { o.Changes = o.Changes[:len(o.Changes)-1] },
				func(o *impl.Method) { o.Changes = nil },
			} {
				o := copyOf(m)
				alter(&o)
				others = append(others, o)
			}
			for at := range m.Changes {
				o := copyOf(m)
				o.Changes[at] = otherChange(n, o.Changes[at])
				others = append(others, o)
			}
			for _, o := range others {
				if impl.SameMethod(m, o) || impl.SameMethod(o, m) {
					t.Errorf("%v and %v are the same", m, o)
				}
			}
		}
	}
}

func TestSameMethodOnInvalidValues(t *testing.T) {
	bad := badMethods()
	for i, m := range bad {
		if !impl.SameMethod(m, copyOf(m)) {
			t.Errorf("%v is not the same as itself", m)
		}
		for _, o := range bad[:i] {
			want := m.Name == o.Name && m.Stage == o.Stage && slices.Equal(m.Changes, o.Changes)
			if impl.SameMethod(m, o) != want || impl.SameMethod(o, m) != want {
				t.Errorf("SameMethod(%v, %v) is not %v", m, o, want)
			}
		}
	}
	empty := impl.Method{Name: "\xff", Stage: -1, Changes: []string{}}
	if !impl.SameMethod(empty, impl.Method{Name: "\xff", Stage: -1}) || !impl.SameMethod(impl.Method{}, impl.Method{Changes: []string{}}) {
		t.Error("no changes and an empty list are not the same")
	}
	if impl.SameMethod(impl.Method{Changes: []string{""}}, impl.Method{}) || impl.SameMethod(impl.Method{Changes: []string{"1", "4"}}, impl.Method{Changes: []string{"14"}}) {
		t.Error("lists of other lengths are the same")
	}
}

func TestInvalidMethodsGiveZeroValues(t *testing.T) {
	for _, m := range badMethods() {
		for _, from := range []string{"", "123", "1234", "12345", "123456", "1234567", rounds8} {
			if results := callMethodFunctions(m, from, 0); !allZero(results) {
				t.Errorf("with %v and %q the functions return %v", m, from, results)
			}
		}
	}
}

// allZero tells whether all results are false, zero or empty.
func allZero(results []any) bool {
	for _, r := range results {
		v := reflect.ValueOf(r)
		if !v.IsZero() && (v.Kind() != reflect.Slice || v.Len() > 0) {
			return false
		}
	}
	return true
}

func TestLeadRowsFromNoRow(t *testing.T) {
	for n := 3; n <= 8; n++ {
		m := methodsWith(n, randomLists(n, 1))[9]
		from := badRows()
		for other := 3; other <= 8; other++ {
			if other != n {
				from = append(from, someRows(other, 3)...)
			}
		}
		for _, row := range from {
			if rows, ok := impl.LeadRows(m, row); ok || len(rows) != 0 {
				t.Errorf("LeadRows(%v, %q) is %q, %v", m, row, rows, ok)
			}
		}
	}
}

func TestMethodsAreNotModifiedNorShared(t *testing.T) {
	for k := range 8 {
		back := append(plainBob().Changes, "kept", "kept")
		kept := slices.Clone(back)
		m := impl.Method{Name: "plain", Stage: 4, Changes: back[:8]}
		callMethodFunctions(m, "4321", k)
		turned := mustTurnMethod(t, m)
		rotated := mustStartAt(t, m, k)
		wantRotated := slices.Clone(rotated.Changes)
		overwrite(turned.Changes)
		if !slices.Equal(back, kept) || !slices.Equal(rotated.Changes, wantRotated) {
			t.Fatalf("TurnMethod shares memory: %q and %q", back, rotated.Changes)
		}
		overwrite(rotated.Changes)
		if !slices.Equal(back, kept) {
			t.Fatalf("StartAt(%d) shares memory: %q", k, back)
		}
		overwrite(back)
		if !slices.Equal(turned.Changes, repeated("written", 8)) || !slices.Equal(mustTurnMethod(t, plainBob()).Changes[:1], []string{"12"}) {
			t.Fatalf("TurnMethod keeps what was written: %q", turned.Changes)
		}
	}
}

// overwrite writes into all memory behind a slice.
func overwrite(l []string) {
	whole := l[:cap(l)]
	for i := range whole {
		whole[i] = "written"
	}
}

func TestRepeatedCallsAreIndependent(t *testing.T) {
	m := plainBob()
	lead, _ := impl.LeadRows(m, "1234")
	course, _ := impl.CourseRows(m)
	overwrite(lead)
	overwrite(course)
	still := impl.Method{Name: "a", Stage: 4, Changes: []string{"12", "12"}}
	bells, _ := impl.StillBells(still)
	hunt, _ := impl.HuntBells(still)
	clear(bells[:cap(bells)])
	clear(hunt[:cap(hunt)])
	if rows, ok := impl.LeadRows(m, "1234"); !ok || !slices.Equal(rows, plainLead(m, "1234")[:8]) {
		t.Errorf("LeadRows is %q, %v", rows, ok)
	}
	if rows, ok := impl.CourseRows(m); !ok || len(rows) != 24 || rows[23] != "1243" {
		t.Errorf("CourseRows is %q, %v", rows, ok)
	}
	if bells, ok := impl.StillBells(still); !ok || !slices.Equal(bells, []int{1, 2}) {
		t.Errorf("StillBells is %d, %v", bells, ok)
	}
	if bells, ok := impl.HuntBells(still); !ok || !slices.Equal(bells, []int{1, 2, 3, 4}) {
		t.Errorf("HuntBells is %d, %v", bells, ok)
	}
}

// callMethodFunctions calls every function of chapter 4 except SameMethod and returns what they return.
func callMethodFunctions(m impl.Method, from string, k int) []any {
	good := impl.GoodMethod(m)
	head, ok1 := impl.LeadHead(m)
	rows, ok2 := impl.LeadRows(m, from)
	leads, ok3 := impl.LeadsIn(m)
	course, ok4 := impl.CourseRows(m)
	hunt, ok5 := impl.HuntBells(m)
	still, ok6 := impl.StillBells(m)
	turned, ok7 := impl.TurnMethod(m)
	rotated, ok8 := impl.StartAt(m, k)
	is, ok9 := impl.IsPalindrome(m)
	return []any{good, head, ok1, rows, ok2, leads, ok3, course, ok4, hunt, ok5, still, ok6, turned, ok7, rotated, ok8, is, ok9}
}

func TestMethodFunctionsAcceptAllArguments(t *testing.T) {
	starts := append(badRows(), "123", "4321", "12345", "654321", "1234567", rounds8)
	indexes := []int{math.MinInt, -1, 0, 1, 7, 8, 39, 40, math.MaxInt}
	methods := append(badMethods(), plainBob())
	for n := 3; n <= 8; n++ {
		methods = append(methods, methodsWith(n, randomLists(n, 1))...)
	}
	methods = append(methods, impl.Method{Name: strings.Repeat("a", 1<<20), Stage: 4, Changes: repeated("-", 1<<16)})
	for i, m := range methods {
		// Written beyond its length, the list would change what is behind it.
		back := append(slices.Clone(m.Changes), "kept", "kept")
		kept := slices.Clone(back)
		given := impl.Method{Name: m.Name, Stage: m.Stage, Changes: back[:len(m.Changes)]}
		from, k := starts[i%len(starts)], indexes[i%len(indexes)]
		first := callMethodFunctions(given, from, k)
		if again := callMethodFunctions(given, from, k); !reflect.DeepEqual(first, again) {
			t.Fatalf("calls with %v, %q, %d return %v and then %v", m, from, k, first, again)
		}
		if !impl.SameMethod(given, m) || !slices.Equal(back, kept) {
			t.Fatalf("arguments are changed: %q", kept)
		}
	}
}

func FuzzMethodFunctions(f *testing.F) {
	f.Add("plain", 4, "- 14 - 14 - 14 - 12", "1234", 7)
	f.Add("abcdefghij", 5, "5 1 5 1 5 125", "54321", 0)
	f.Add("", 3, "1 3", "312", 1)
	f.Add("A", 8, "18", "", -1)
	f.Fuzz(func(t *testing.T, name string, n int, changes string, from string, k int) {
		for _, stage := range []int{n, len(from), 3 + (n&7)%6} {
			m := impl.Method{Name: name, Stage: stage, Changes: strings.Fields(changes)}
			results := callMethodFunctions(m, from, k)
			if !impl.GoodMethod(m) {
				if !allZero(results) {
					t.Fatalf("with %v, %q, %d the functions return %v", m, from, k, results)
				}
				continue
			}
			want, leads := plainCourse(m)
			if rows, ok := impl.CourseRows(m); !ok || !slices.Equal(rows, want) || len(rows) != leads*len(m.Changes) {
				t.Fatalf("CourseRows(%v) is %q, %v", m, rows, ok)
			}
			if rows, ok := impl.LeadRows(m, from); ok && !slices.Equal(rows, plainLead(m, from)[:len(m.Changes)]) {
				t.Fatalf("LeadRows(%v, %q) is %q", m, from, rows)
			}
		}
	})
}
