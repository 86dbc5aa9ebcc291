package clerk_test

import (
	"math"
	"math/rand/v2"
	"reflect"
	"slices"
	"strings"
	"testing"

	"huer/api"
	"huer/bulk"
	"huer/clerk"
	"huer/cry"
	"huer/seine"
)

// rounds is how many setups each test of a property tries.
const rounds = 50

// lines is how many lines each clerk is told.
const lines = 40

// anyClerk is a drawn clerk to whom some lines were told.
func anyClerk(t *testing.T, r *rand.Rand) (api.ClerkSetup, *clerk.Clerk) {
	s := anySetup(r)
	c := made(t, s)
	for range r.IntN(lines) {
		c.Do(anyChange(r, s))
	}
	return s, c
}

// TestAgainstSlow is of P11.2, P11.3 and P11.8: each line has the answer, or the error, that follows from the chapter's definitions, and the functions of the layers.
func TestAgainstSlow(t *testing.T) {
	r := chance(1)
	many := map[api.Errno]int{}
	for range rounds * 2 {
		s := anySetup(r)
		c, x := made(t, s), newSlow(s)
		for range lines {
			line := anyLine(r, s)
			answer, e := c.Do(line)
			if want, f := x.do(line); answer != want || e != f {
				t.Fatalf("%q behind %q of %v: %q, %d, not %q, %d", line, c.Journal(), s, answer, e, want, f)
			}
			many[e]++
		}
		for _, line := range allAsked(s) {
			answer, e := c.Do(line)
			if want, f := x.do(line); answer != want || e != f {
				t.Fatalf("%q behind %q of %v: %q, %d, not %q, %d", line, c.Journal(), s, answer, e, want, f)
			}
			many[e]++
		}
		if !slices.Equal(c.Cries(), x.shoal.Cries) || !slices.Equal(c.Notes(), x.seine.Notes) || !slices.Equal(c.Lots(), x.quay.Bulk.Lots) || !slices.Equal(c.Bonds(), x.quay.Bonds) || !slices.Equal(c.Journal(), x.journal) {
			t.Fatalf("the clerk has %s, but the books %v", memory(c), x)
		}
	}
	for _, e := range []api.Errno{api.OK, api.ErrNone, api.ErrFull, api.ErrRange, api.ErrClerkLine, api.ErrClerkUnknown, api.ErrClerkFalse} {
		if many[e] < rounds {
			t.Errorf("so many lines return each error: %v", many)
		}
	}
}

// TestPlayedAgain is of P11.6: a clerk that is opened from the file of another one has the same file, and answers the same, also behind further lines.
func TestPlayedAgain(t *testing.T) {
	r := chance(2)
	for range rounds {
		s, c := anyClerk(t, r)
		again, at, e := clerk.Open(s, c.File())
		if e != api.OK || again == nil || at != len(c.Journal()) || memory(again) != memory(c) {
			t.Fatalf("Open of %q, %v: %d, %d", c.File(), s, at, e)
		}
		for range 10 {
			line := anyLine(r, s)
			answer, e := c.Do(line)
			if other, f := again.Do(line); answer != other || e != f {
				t.Fatalf("%q behind %q: %q, %d; played again %q, %d", line, c.Journal(), answer, e, other, f)
			}
		}
		if ask := allAsked(s); memory(again) != memory(c) || !slices.Equal(answers(again, ask), answers(c, ask)) {
			t.Fatalf("the clerk of %q: %s, played again: %s", c.Journal(), memory(c), memory(again))
		}
	}
}

// TestOpenAgainstDo is of P11.4: a file is done as far as its lines are done one by one.
func TestOpenAgainstDo(t *testing.T) {
	r := chance(3)
	opened := 0
	for range rounds * 5 {
		s, c := anyClerk(t, r)
		told := c.Journal()
		if len(told) > 0 && r.IntN(3) > 0 {
			told[r.IntN(len(told))] = anyLine(r, s)
		}
		file := ""
		for _, line := range told {
			file += line + "\n"
		}
		at, e := 0, api.OK
		one := made(t, s)
		for _, line := range strings.Split(strings.TrimSuffix(file, "\n"), "\n") {
			if file == "" {
				break
			}
			if _, e = one.Do(line); !isChange(line) {
				e = api.ErrClerkLine
			}
			if e != api.OK {
				break
			}
			at++
		}
		again, n, f := clerk.Open(s, file)
		if n != at || f != e || (again == nil) != (e != api.OK) {
			t.Fatalf("Open of %q, %v: %d, %d, not %d, %d", file, s, n, f, at, e)
		}
		if again != nil {
			opened++
			if memory(again) != memory(one) {
				t.Fatalf("Open of %q: %s, not %s", file, memory(again), memory(one))
			}
		}
	}
	if opened < rounds || opened > rounds*4 {
		t.Errorf("of %d files %d are opened", rounds*5, opened)
	}
}

// TestErrorChangesNothing is of P11.7: a line that is an error, or asks, changes nothing, and is not in the journal; any other one is its last line.
func TestErrorChangesNothing(t *testing.T) {
	r := chance(4)
	for range rounds {
		s := anySetup(r)
		c := made(t, s)
		ask := allAsked(s)
		for range lines {
			line := anyLine(r, s)
			before, journal := memory(c), c.Journal()
			var answered []done
			if r.IntN(8) == 0 {
				answered = answers(c, ask)
			}
			_, e := c.Do(line)
			if e == api.OK && isChange(line) {
				journal = append(journal, line)
			} else if memory(c) != before || answered != nil && !slices.Equal(answers(c, ask), answered) {
				t.Fatalf("%q, %d: from %s to %s", line, e, before, memory(c))
			}
			if !slices.Equal(c.Journal(), journal) {
				t.Fatalf("%q, %d: the journal %q, not %q", line, e, c.Journal(), journal)
			}
		}
	}
}

// TestToldIsTrue is of P11.8: behind each line all books can be true.
func TestToldIsTrue(t *testing.T) {
	r := chance(5)
	for range rounds {
		s := anySetup(r)
		c := made(t, s)
		for range lines {
			c.Do(anyChange(r, s))
			bay := s.Cry
			bay.Cries = c.Cries()
			shoal, e := cry.Right(bay)
			held, f := seine.Right(api.SeineBook{Inclosed: s.Inclosed, Notes: c.Notes()})
			cellar, g := bulk.Right(api.BulkBook{Holds: s.Holds, Error: s.Error, Lots: c.Lots()})
			if !shoal || !held || !cellar || e != api.OK || f != api.OK || g != api.OK {
				t.Fatalf("behind %q of %v: %v, %v, %v", c.Journal(), s, shoal, held, cellar)
			}
		}
	}
}

// TestBooksApart is of P11.9: a line of one book changes nothing that is answered of another one, but lots are in both the books of layers 5 and 7.
func TestBooksApart(t *testing.T) {
	r := chance(6)
	for range rounds {
		s, c := anyClerk(t, r)
		shoal, seine, cellar, quay := asked(s)
		for range 6 {
			line := anyChange(r, s)
			others := map[byte][]string{'c': slices.Concat(seine, cellar, quay), 'n': slices.Concat(shoal, cellar, quay), 'l': slices.Concat(shoal, seine), 'b': slices.Concat(shoal, seine, cellar)}[line[0]]
			before := answers(c, others)
			c.Do(line)
			if after := answers(c, others); !slices.Equal(before, after) {
				t.Fatalf("%q: from %v to %v", line, before, after)
			}
		}
	}
}

// TestCryMore is of P11.10: a cry more leaves no square that could not be before, at any minute.
func TestCryMore(t *testing.T) {
	r := chance(7)
	tried := 0
	for range rounds * 2 {
		s, c := anyClerk(t, r)
		before := answers(c, wheres())
		line := anyChange(r, s)
		if _, e := c.Do(line); e != api.OK || line[0] != 'c' {
			continue
		}
		tried++
		for minute, after := range answers(c, wheres()) {
			could := strings.Fields(before[minute].answer)
			for _, square := range strings.Fields(after.answer) {
				if !slices.Contains(could, square) {
					t.Fatalf("%q behind %q: at %d from %v to %v", line, c.Journal(), minute, before[minute], after)
				}
			}
		}
	}
	if tried < rounds/10 {
		t.Errorf("only %d cries were added", tried)
	}
}

// TestBondMore is of P11.10 and P11.11: a bond more leaves what others get, and is one merchant's.
func TestBondMore(t *testing.T) {
	r := chance(8)
	tried := 0
	for range rounds * 2 {
		s, c := anyClerk(t, r)
		has := len(c.Bonds())
		_, _, _, quay := asked(s)
		gets := slices.DeleteFunc(quay, func(line string) bool { return !strings.HasPrefix(line, "gets ") })[:has]
		before := answers(c, gets)
		line := lineOf("buy "+anyName(r, s), within(r, 1, 12), r.IntN(40), r.IntN(10))
		if _, e := c.Do(line); e != api.OK {
			continue
		}
		tried++
		if after := answers(c, gets); !slices.Equal(before, after) {
			t.Fatalf("%q behind %q: from %v to %v", line, c.Journal(), before, after)
		}
		owners := make([]int, has+1)
		for _, name := range s.Names {
			answer, e := c.Do("whose " + name)
			if e != api.OK {
				t.Fatalf("whose %s: %d", name, e)
			}
			last := -1
			for bond := range owners {
				if slices.Contains(strings.Fields(answer), lineOf("", bond)[1:]) && bond > last {
					owners[bond], last = owners[bond]+1, bond
				}
			}
			if is := strings.HasSuffix(" "+answer, lineOf("", has)); is != (strings.Fields(line)[1] == name) {
				t.Fatalf("%q: %s has %q", line, name, answer)
			}
		}
		for bond, many := range owners {
			if many != 1 {
				t.Fatalf("%d merchants have the bond %d of %q", many, bond, c.Journal())
			}
		}
	}
	if tried < rounds/4 {
		t.Errorf("only %d bonds were added", tried)
	}
}

// roomy is a list with something behind it that is not its own.
func roomy[T any](list []T, behind T) []T {
	longer := append(slices.Clone(list), behind, behind)
	return longer[:len(list)]
}

// whole is a copy of a list, with all that lies behind it.
func whole[T any](list []T) []T { return slices.Clone(list[:cap(list)]) }

// TestOnlyRead is of P11.1, P11.3 and P11.5: a setup is only read, and not kept, and what is returned is new memory.
func TestOnlyRead(t *testing.T) {
	r := chance(9)
	for range rounds {
		own := anySetup(r)
		s := with(own)
		s.Cry.Land, s.Names = roomy(s.Cry.Land, 77), roomy(s.Names, "behind")
		land, all := whole(s.Cry.Land), whole(s.Names)
		c := made(t, s)
		for range lines {
			c.Do(anyChange(r, own))
		}
		opened, _, e := clerk.Open(s, c.File())
		if e != api.OK || !slices.Equal(whole(s.Cry.Land), land) || !slices.Equal(whole(s.Names), all) {
			t.Fatalf("the setup was changed: %v; before %v, %d", s, own, e)
		}
		ask := allAsked(own)
		before, answered := memory(c), answers(c, ask)
		overwrite(s.Cry.Land, 0)
		overwrite(s.Names, "written")
		for _, d := range []*clerk.Clerk{c, opened} {
			overwrite(d.Cries(), api.CryCry{})
			overwrite(d.Notes(), api.SeineNote{Kind: 7})
			overwrite(d.Lots(), api.BulkLot{})
			overwrite(d.Bonds(), api.BondBond{})
			overwrite(d.Journal(), "written")
			if memory(d) != before || !slices.Equal(answers(d, ask), answered) {
				t.Fatalf("from %s to %s", before, memory(d))
			}
		}
	}
}

// overwrite writes over a list, and all that lies behind it.
func overwrite[T any](list []T, by T) {
	list = list[:cap(list)]
	for at := range list {
		list[at] = by
	}
}

// TestKept is of P11.5 and R4: lists that were returned do not change with later lines.
func TestKept(t *testing.T) {
	r := chance(10)
	for range rounds {
		s, c := anyClerk(t, r)
		cries, notes, lots, bonds, journal := c.Cries(), c.Notes(), c.Lots(), c.Bonds(), c.Journal()
		old := [][]any{{slices.Clone(cries), slices.Clone(notes)}, {slices.Clone(lots), slices.Clone(bonds), slices.Clone(journal)}}
		for range lines {
			c.Do(anyChange(r, s))
		}
		if now := [][]any{{slices.Clone(cries), slices.Clone(notes)}, {slices.Clone(lots), slices.Clone(bonds), slices.Clone(journal)}}; !reflect.DeepEqual(now, old) {
			t.Fatalf("from %v to %v", old, now)
		}
	}
}

// TestSameAgain is of P2: what other clerks do makes no difference.
func TestSameAgain(t *testing.T) {
	r := chance(11)
	type tale struct {
		s     api.ClerkSetup
		c     *clerk.Clerk
		lines []string
		done  []done
	}
	var all []tale
	for range rounds / 2 {
		x := tale{s: anySetup(r)}
		x.c = made(t, x.s)
		for range lines {
			x.lines = append(x.lines, anyLine(r, x.s))
		}
		x.done = answers(x.c, x.lines)
		x.c = made(t, x.s)
		all = append(all, x)
	}
	// again, all of them in turns
	for at := range lines {
		for _, i := range r.Perm(len(all)) {
			if answer, e := all[i].c.Do(all[i].lines[at]); answer != all[i].done[at].answer || e != all[i].done[at].e {
				t.Fatalf("%v: then %q, %d", all[i].done[at], answer, e)
			}
		}
	}
}

// TestNilAndEmpty is of rule R3, for P11.1 to P11.3: there is no difference between a nil list and an empty one.
func TestNilAndEmpty(t *testing.T) {
	none := setup(names(), land())
	empty := with(none, func(s *api.ClerkSetup) {
		s.Names, s.Cry.Land, s.Cry.Cries = []string{}, []int{}, []api.CryCry{}
	})
	c, d := made(t, none), made(t, empty)
	ask := append(allAsked(none), "whose penrose", "buy penrose 1 1 1", "cry 0 0 0 10 1 10 2", "lot 1 - - 6 0 0", "note 2 5 0 0")
	if !slices.Equal(answers(c, ask), answers(d, ask)) || memory(c) != memory(d) {
		t.Errorf("nil lists: %s, empty ones: %s", memory(c), memory(d))
	}
}

// wild is a number that is likely to be wrong.
func wild(r *rand.Rand) int {
	numbers := []int{0, 1, 3, 9, 10, 12, 60, 400, 401, -1, -9, math.MaxInt, math.MinInt, math.MaxInt32, math.MinInt32, math.MaxInt / 2, 1 << 32}
	return numbers[r.IntN(len(numbers))]
}

// wildSetup is a setup of which something is any.
func wildSetup(r *rand.Rand) api.ClerkSetup {
	s := anySetup(r)
	for _, change := range []func(){
		func() { s.Cry.Wide = wild(r) },
		func() { s.Cry.High = wild(r) },
		func() { s.Cry.Heads[r.IntN(2)] = wild(r) },
		func() { s.Cry.Swim = wild(r) },
		func() { s.Cry.Land = []int{wild(r)} },
		func() { s.Cry.Land = make([]int, 100000) },
		func() { s.Cry.Cries = make([]api.CryCry, r.IntN(3)) },
		func() { s.Inclosed = to(wild(r), wild(r)) },
		func() { s.Holds[r.IntN(3)] = to(wild(r), wild(r)) },
		func() { s.Error[r.IntN(3)] = wild(r) },
		func() { s.Names = make([]string, r.IntN(100000)) },
		func() { s.Names = []string{strings.Repeat("a", r.IntN(20)), string([]byte{byte(r.IntN(256))})} },
	} {
		if r.IntN(15) == 0 {
			change()
		}
	}
	return s
}

// wildText is any text of some bytes, mostly such as lines have.
func wildText(r *rand.Rand) string {
	bytes := make([]byte, r.IntN(130))
	for at := range bytes {
		bytes[at] = "cry note lot buy where 0123456789 - \n\xff"[r.IntN(37)]
	}
	return string(bytes)
}

// TestAnyArguments is of P1: every function ends, without a panic, and with an error all other results are zero values.
func TestAnyArguments(t *testing.T) {
	r := chance(12)
	for range 1000 {
		s := wildSetup(r)
		e := clerk.Check(s)
		c, f := clerk.New(s)
		d, at, g := clerk.Open(s, wildText(r))
		if e != f || (c == nil) != (f != api.OK) || (d == nil) != (g != api.OK) || e != api.OK && (g != e || at != 0) {
			t.Fatalf("the setup %v: %d, %d, %d, %d", s, e, f, at, g)
		}
		for range 5 {
			line := wildText(r)
			if r.IntN(2) == 0 {
				line = lineOf([]string{"cry", "note", "lot", "buy a", "shoot", "count", "held", "sell"}[r.IntN(8)], wild(r), wild(r), wild(r))
			}
			answer, e := c.Do(line)
			if (answer == "") != (e != api.OK) || c == nil && e != api.ErrNil {
				t.Fatalf("%q of %v: %q, %d", line, s, answer, e)
			}
		}
	}
}

// TestMostWork is of P1: the clerks who work the longest end soon, too.
func TestMostWork(t *testing.T) {
	s := setup(func(s *api.ClerkSetup) {
		s.Cry = api.CryBook{Wide: 10, High: 8, Heads: [2]int{0, 9}, Swim: 3}
		s.Holds, s.Error = [3]api.Span{to(1, 4), to(1, 4), to(1, 4)}, [3]int{9, 9, 9}
	}, inclosed(388, 400))
	var most []string
	for i := range 8 {
		most = append(most, lineOf("cry", i%2, 4*i, i%2, 12, 1, 7, 1), lineOf("note", []int{0, 1, 3, 4}[i%4], 5*i, []int{0, 1, 0, 200}[i%4], []int{12, 9, 12, 212}[i%4]))
	}
	for i := range 4 {
		most = append(most, lineOf("lot", 100*i, 20, 20, 20, 15, 20))
	}
	for i := range 6 {
		most = append(most, lineOf("buy penrose", 60-i, 60*i, 99))
	}
	c := made(t, s)
	for _, line := range most {
		c.Do(line)
	}
	if len(c.Lots()) != 4 || len(c.Bonds()) != 6 || len(c.Cries()) < 4 || len(c.Notes()) < 4 {
		t.Errorf("the journal: %q", c.Journal())
	}
	for _, x := range answers(c, allAsked(s)) {
		if (x.answer == "") != (x.e != api.OK) {
			t.Errorf("%v", x)
		}
	}
}
