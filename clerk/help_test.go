package clerk_test

import (
	"math/rand/v2"
	"regexp"
	"slices"
	"strconv"
	"strings"
	"testing"

	"huer/api"
	"huer/bond"
	"huer/bulk"
	"huer/clerk"
	"huer/cry"
	"huer/seine"
)

func to(low, high int) api.Span { return api.Span{Low: low, High: high} }

func just(number int) api.Span { return to(number, number) }

// setup is that of the chapter's examples, after some changes.
func setup(changes ...func(s *api.ClerkSetup)) api.ClerkSetup {
	return with(api.ClerkSetup{
		Cry:      api.CryBook{Wide: 6, High: 4, Heads: [2]int{0, 5}, Swim: 1},
		Inclosed: to(100, 110),
		Holds:    [3]api.Span{just(4), just(9), to(5, 6)},
		Names:    []string{"penrose", "bolitho"},
	}, changes...)
}

// with is a setup after some changes.
func with(s api.ClerkSetup, changes ...func(s *api.ClerkSetup)) api.ClerkSetup {
	s.Cry.Land, s.Cry.Cries, s.Names = slices.Clone(s.Cry.Land), slices.Clone(s.Cry.Cries), slices.Clone(s.Names)
	for _, change := range changes {
		change(&s)
	}
	return s
}

func names(all ...string) func(s *api.ClerkSetup) {
	return func(s *api.ClerkSetup) { s.Names = all }
}

func land(squares ...int) func(s *api.ClerkSetup) {
	return func(s *api.ClerkSetup) { s.Cry.Land = squares }
}

func inclosed(low, high int) func(s *api.ClerkSetup) {
	return func(s *api.ClerkSetup) { s.Inclosed = to(low, high) }
}

func holds(kind, low, high int) func(s *api.ClerkSetup) {
	return func(s *api.ClerkSetup) { s.Holds[kind] = to(low, high) }
}

func wrongBy(kind, many int) func(s *api.ClerkSetup) {
	return func(s *api.ClerkSetup) { s.Error[kind] = many }
}

// made is a clerk of a valid setup.
func made(t *testing.T, s api.ClerkSetup) *clerk.Clerk {
	t.Helper()
	c, e := clerk.New(s)
	if c == nil || e != api.OK {
		t.Fatalf("New of %v: %v, %d", s, c, e)
	}
	return c
}

// told is a new clerk to whom some lines were told.
func told(t *testing.T, s api.ClerkSetup, lines ...string) *clerk.Clerk {
	t.Helper()
	c := made(t, s)
	for _, line := range lines {
		if _, e := c.Do(line); e != api.OK {
			t.Fatalf("%q: %d", line, e)
		}
	}
	return c
}

// done is a line, and what is to come of it.
type done struct {
	line, answer string
	e            api.Errno
}

// play does lines, and checks what comes of each.
func play(t *testing.T, c *clerk.Clerk, lines ...done) {
	t.Helper()
	for _, x := range lines {
		if answer, e := c.Do(x.line); answer != x.answer || e != x.e {
			t.Errorf("%q: %q, %d, not %q, %d", x.line, answer, e, x.answer, x.e)
		}
	}
}

// fail does lines each of which is to return an error, and checks that they change nothing.
func fail(t *testing.T, c *clerk.Clerk, e api.Errno, lines ...string) {
	t.Helper()
	before := memory(c)
	for _, line := range lines {
		if answer, f := c.Do(line); answer != "" || f != e {
			t.Errorf("%q: %q, %d, not %d", line, answer, f, e)
		}
		if now := memory(c); now != before {
			t.Errorf("%q: from %s to %s", line, before, now)
		}
	}
}

// memory is all that a clerk returns of what it was told, as a text.
func memory(c *clerk.Clerk) string {
	var text strings.Builder
	write := func(all ...int) {
		for _, one := range all {
			text.WriteString(strconv.Itoa(one) + " ")
		}
	}
	for _, one := range c.Cries() {
		write(one.Huer, one.Minute, one.Kind, one.From.Along, one.From.Out, one.To.Along, one.To.Out)
	}
	text.WriteString("; ")
	for _, one := range c.Notes() {
		write(one.Kind, one.Hour, one.Many.Low, one.Many.High)
	}
	text.WriteString("; ")
	for _, one := range c.Lots() {
		write(one.Told[0], one.Told[1], one.Told[2], one.Waste.Low, one.Waste.High)
	}
	text.WriteString("; ")
	for _, one := range c.Bonds() {
		write(one.Many, one.Day, one.Fine)
	}
	return text.String() + "; " + strings.Join(c.Journal(), "|") + "; " + c.File()
}

// slow is a clerk that works as the chapter says, with the books of all layers.
type slow struct {
	s       api.ClerkSetup
	shoal   api.CryBook
	seine   api.SeineBook
	quay    api.BondBook
	buyers  []string
	journal []string
}

func newSlow(s api.ClerkSetup) *slow {
	return &slow{
		s: s, shoal: s.Cry, seine: api.SeineBook{Inclosed: s.Inclosed},
		quay: api.BondBook{Bulk: api.BulkBook{Holds: s.Holds, Error: s.Error}},
	}
}

// What the chapter's letters stand for.
const (
	number = " (0|[1-9][0-9]{0,6})"
	count  = " (0|[1-9][0-9]{0,6}|-)"
	text   = " ([^ ]+)"
)

// forms are those of all lines, by their words.
var forms = map[string]*regexp.Regexp{}

func init() {
	for word, behind := range map[string]string{
		"cry": strings.Repeat(number, 7), "note": strings.Repeat(number, 4), "lot": number + strings.Repeat(count, 3) + number + number, "buy": text + strings.Repeat(number, 3),
		"where": number, "shoot": number + number + number, "soon": number + number, "held": number, "rate": number, "empty": "", "saved": "",
		"fish": number, "packed": number, "count": number + number, "total": "", "casks": "", "weigh": "",
		"ready": number, "gets": number, "full": "", "short": "", "fines": "", "sell": number, "later": number, "drop": "", "whose": text,
	} {
		forms[word] = regexp.MustCompile("^" + word + behind + "$")
	}
}

// isForm tells whether a line has the form.
func isForm(line string) bool {
	form := forms[strings.Split(line, " ")[0]]
	return len(line) <= 120 && !strings.Contains(line, "\n") && form != nil && form.MatchString(line)
}

// numbersOf are all numbers of a line that has the form, and its name.
func numbersOf(line string) (n []int, name string) {
	tokens := strings.Split(line, " ")
	for at, token := range tokens[1:] {
		if at == 0 && (tokens[0] == "buy" || tokens[0] == "whose") {
			name = token
			continue
		}
		one, e := strconv.Atoi(token)
		if e != nil {
			one = -1
		}
		n = append(n, one)
	}
	return n, name
}

// isChange tells whether a line begins with the word of one that changes something.
func isChange(line string) bool {
	return slices.Contains([]string{"cry", "note", "lot", "buy"}, strings.Split(line, " ")[0])
}

// do does a line.
func (x *slow) do(line string) (string, api.Errno) {
	if !isForm(line) {
		return "", api.ErrClerkLine
	}
	n, name := numbersOf(line)
	if name != "" && !slices.Contains(x.s.Names, name) {
		return "", api.ErrClerkUnknown
	}
	if !isChange(line) {
		return x.ask(line, n, name)
	}
	if e := x.tell(line, n, name); e != api.OK {
		return "", e
	}
	x.journal = append(x.journal, line)
	return x.telling(line, n)
}

// tell adds what a line tells to its book.
func (x *slow) tell(line string, n []int, name string) api.Errno {
	switch line[0] {
	case 'c':
		one := cried(n)
		fits, e := cry.Fits(x.shoal, one)
		if e != api.OK || len(x.shoal.Cries) == 8 || !fits {
			return firstOf(e != api.OK, len(x.shoal.Cries) == 8)
		}
		x.shoal.Cries = append(x.shoal.Cries, one)
	case 'n':
		one := api.SeineNote{Kind: n[0], Hour: n[1], Many: to(n[2], n[3])}
		fits, e := seine.Fits(x.seine, one)
		if e != api.OK || len(x.seine.Notes) == 8 || !fits {
			return firstOf(e != api.OK, len(x.seine.Notes) == 8)
		}
		x.seine.Notes = append(x.seine.Notes, one)
		slices.SortStableFunc(x.seine.Notes, func(a, b api.SeineNote) int { return a.Hour - b.Hour })
	case 'l':
		one := api.BulkLot{Told: [3]int{n[1], n[2], n[3]}, Waste: to(n[4], n[5])}
		alone, more := x.quay.Bulk, x.quay.Bulk
		alone.Lots, more.Lots = []api.BulkLot{one}, append(slices.Clone(more.Lots), one)
		wrong := bulk.Check(alone) != api.OK || n[0] > 399
		if is, _ := bulk.Right(more); wrong || len(more.Lots) > 4 || !is {
			return firstOf(wrong, len(more.Lots) > 4)
		}
		x.quay.Bulk, x.quay.Ready = more, append(x.quay.Ready, n[0])
	case 'b':
		if n[0] < 1 || n[0] > 60 || n[1] > 399 || n[2] > 99 || len(x.quay.Bonds) == 6 {
			return firstOf(n[0] < 1 || n[0] > 60 || n[1] > 399 || n[2] > 99, true)
		}
		x.quay.Bonds, x.buyers = append(x.quay.Bonds, api.BondBond{Many: n[0], Day: n[1], Fine: n[2]}), append(x.buyers, name)
	}
	return api.OK
}

// firstOf is the first error of what is not let in.
func firstOf(wrong, full bool) api.Errno {
	switch {
	case wrong:
		return api.ErrRange
	case full:
		return api.ErrFull
	}
	return api.ErrClerkFalse
}

// cried is the cry of a line.
func cried(n []int) api.CryCry {
	return api.CryCry{Huer: n[0], Minute: n[1], Kind: n[2], From: api.CryPointing{Along: n[3] - 9, Out: n[4]}, To: api.CryPointing{Along: n[5] - 9, Out: n[6]}}
}

// telling is the answer of a line that changed something.
func (x *slow) telling(line string, n []int) (string, api.Errno) {
	switch line[0] {
	case 'c':
		squares, e := cry.Where(x.shoal, n[1])
		return strconv.Itoa(len(squares)), e
	case 'n':
		return spanned(seine.Held(x.seine, n[1]))
	case 'l':
		return spanned(bulk.Casks(x.quay.Bulk))
	}
	return spanned(bond.Gets(x.quay, len(x.quay.Bonds)-1))
}

// ask is the answer of a line that asks.
func (x *slow) ask(line string, n []int, name string) (string, api.Errno) {
	switch word, _, _ := strings.Cut(line, " "); word {
	case "where":
		return listed(cry.Where(x.shoal, n[0]))
	case "shoot":
		return numbered(cry.Shot(x.shoal, n[0], n[1], n[2]))
	case "soon":
		minute, square, e := cry.Soon(x.shoal, n[0], n[1])
		return listed([]int{minute, square}, e)
	case "held":
		return spanned(seine.Held(x.seine, n[0]))
	case "rate":
		return spanned(seine.Rate(x.seine, n[0]))
	case "empty":
		return numbered(seine.Empty(x.seine))
	case "saved":
		return spanned(seine.Saved(x.seine))
	case "fish":
		return spanned(bulk.Fish(x.quay.Bulk, n[0]))
	case "packed":
		return spanned(bulk.Packed(x.quay.Bulk, n[0]))
	case "count":
		return spanned(bulk.Count(x.quay.Bulk, n[0], n[1]))
	case "total":
		return spanned(bulk.Total(x.quay.Bulk))
	case "casks":
		return spanned(bulk.Casks(x.quay.Bulk))
	case "weigh":
		return numbered(bulk.Weigh(x.quay.Bulk))
	}
	return x.askBond(line, n, name)
}

// askBond is the answer of a line that asks for bonds.
func (x *slow) askBond(line string, n []int, name string) (string, api.Errno) {
	switch word, _, _ := strings.Cut(line, " "); word {
	case "ready":
		return spanned(bond.Casks(x.quay, n[0]))
	case "gets":
		return spanned(bond.Gets(x.quay, n[0]))
	case "full":
		return listed(bond.Full(x.quay))
	case "short":
		return spanned(bond.Short(x.quay))
	case "fines":
		return spanned(bond.Fines(x.quay))
	case "sell":
		return numbered(bond.Sell(x.quay, n[0]))
	case "later":
		return numbered(bond.Later(x.quay, n[0]))
	case "drop":
		return listed(bond.Drop(x.quay))
	}
	var list []int
	for at, buyer := range x.buyers {
		if buyer == name {
			list = append(list, at)
		}
	}
	return listed(list, api.OK)
}

func spanned(s api.Span, e api.Errno) (string, api.Errno) { return listed([]int{s.Low, s.High}, e) }

func numbered(n int, e api.Errno) (string, api.Errno) { return listed([]int{n}, e) }

// listed is a list as an answer, or the clerk's error for one of a layer.
func listed(list []int, e api.Errno) (string, api.Errno) {
	switch {
	case e == api.ErrNone:
		return "", e
	case e != api.OK: // a wrong question, since all books can be true
		return "", api.ErrRange
	case len(list) == 0:
		return "-", api.OK
	}
	text := ""
	for _, one := range list {
		text += " " + strconv.Itoa(one)
	}
	return text[1:], api.OK
}

// chance is a source of drawn setups and lines, the same in each run.
func chance(seed uint64) *rand.Rand { return rand.New(rand.NewPCG(seed, 11)) }

// within is a drawn number of a span.
func within(r *rand.Rand, low, high int) int { return low + r.IntN(high-low+1) }

// anySetup is a drawn valid setup.
func anySetup(r *rand.Rand) api.ClerkSetup {
	for {
		s := api.ClerkSetup{
			Cry:      api.CryBook{Wide: within(r, 1, 7), High: within(r, 1, 5), Heads: [2]int{within(r, -1, 4), within(r, 2, 7)}, Swim: within(r, 0, 3)},
			Inclosed: drawnSpan(r, 30, 80, 12), Holds: [3]api.Span{drawnSpan(r, 2, 8, 1), drawnSpan(r, 5, 8, 1), drawnSpan(r, 4, 7, 2)}, Error: [3]int{r.IntN(3), r.IntN(3), r.IntN(3)},
			Names: []string{"a", "penrose", "b7", "bolitho", "kersey123456", "z"}[:r.IntN(7)],
		}
		for square := range s.Cry.Wide * s.Cry.High {
			if len(s.Cry.Land) < 3 && r.IntN(6) == 0 {
				s.Cry.Land = append(s.Cry.Land, square)
			}
		}
		if clerk.Check(s) == api.OK {
			return s
		}
	}
}

// drawnSpan is a drawn span from one number on, its ends no farther apart than so much.
func drawnSpan(r *rand.Rand, low, high, apart int) api.Span {
	s := just(within(r, low, high))
	s.High += r.IntN(apart + 1)
	return s
}

// wheres ask for the shoal at all minutes.
func wheres() (list []string) {
	for minute := range 31 {
		list = append(list, lineOf("where", minute))
	}
	return list
}

// asked are some lines that ask for all there is, of each book.
func asked(s api.ClerkSetup) (shoal, seine, cellar, quay []string) {
	for minute := 0; minute <= 30; minute += 5 {
		shoal = append(shoal, lineOf("where", minute), lineOf("where", minute+1))
	}
	shoal = append(shoal, "shoot 0 3 4", "shoot 9 2 2", "shoot 31 1 1", "soon 1 1", "soon 3 2", "soon 9 9", "soon 0 1")
	for hour := 0; hour <= 60; hour += 6 {
		seine = append(seine, lineOf("held", hour), lineOf("rate", hour+1))
	}
	seine = append(seine, "empty", "saved")
	for lot := range 5 {
		cellar = append(cellar, lineOf("fish", lot), lineOf("packed", lot), lineOf("count", lot, lot%4))
	}
	cellar = append(cellar, "total", "casks", "weigh")
	for bond := range 7 {
		quay = append(quay, lineOf("gets", bond), lineOf("later", bond))
	}
	for _, day := range []int{0, 10, 20, 30, 399, 400} {
		quay = append(quay, lineOf("ready", day), lineOf("sell", day))
	}
	quay = append(quay, "full", "short", "fines", "drop", "whose nobody")
	for _, name := range s.Names {
		quay = append(quay, "whose "+name)
	}
	return shoal, seine, cellar, quay
}

// allAsked are all lines of asked.
func allAsked(s api.ClerkSetup) []string {
	shoal, seine, cellar, quay := asked(s)
	return slices.Concat(shoal, seine, cellar, quay)
}

// answers are what comes of lines that ask.
func answers(c *clerk.Clerk, lines []string) []done {
	var list []done
	for _, line := range lines {
		answer, e := c.Do(line)
		list = append(list, done{line, answer, e})
	}
	return list
}

// lineOf is a line of a word and some numbers.
func lineOf(word string, n ...int) string {
	for _, one := range n {
		if one < 0 {
			word += " -"
		} else {
			word += " " + strconv.Itoa(one)
		}
	}
	return word
}

// anyChange is a drawn line that is likely to change something.
func anyChange(r *rand.Rand, s api.ClerkSetup) string {
	switch r.IntN(4) {
	case 0:
		return lineOf("cry", r.IntN(2), within(r, 0, 6), r.IntN(2), within(r, 9, 13), 1, within(r, 5, 10), within(r, 1, 2))
	case 1:
		low, kind := r.IntN(10), r.IntN(5)
		if kind == api.SeineSound {
			low = s.Inclosed.Low - r.IntN(20)
		}
		if kind == api.SeineMend {
			return lineOf("note", kind, r.IntN(61), 0, 0)
		}
		return lineOf("note", kind, r.IntN(61), low, low+r.IntN(10))
	case 2:
		fish := r.IntN(60)
		n := []int{r.IntN(40), -1, -1, -1, 0, r.IntN(4)}
		for kind := range 3 {
			if r.IntN(2) == 0 {
				n[1+kind] = fish/s.Holds[kind].Low + r.IntN(2)
			}
		}
		return lineOf("lot", n...)
	}
	return lineOf("buy "+anyName(r, s), within(r, 1, 12), r.IntN(40), r.IntN(10))
}

// anyName is mostly that of a merchant.
func anyName(r *rand.Rand, s api.ClerkSetup) string {
	if len(s.Names) == 0 || r.IntN(8) == 0 {
		return []string{"nobody", "-", "7", "Penrose", "a\t", "\xff"}[r.IntN(6)]
	}
	return s.Names[r.IntN(len(s.Names))]
}

// torn is a line with something changed in it.
func torn(r *rand.Rand, line string) string {
	at := r.IntN(len(line) + 1)
	switch r.IntN(5) {
	case 0:
		return line[:at]
	case 1:
		return line[at:]
	case 2:
		return line[:at] + []string{" ", "-", "0", "1", "x", "\n", "9999", "\x00", "+"}[r.IntN(9)] + line[at:]
	case 3:
		return line + []string{" ", " 1", " -", "\n", "\r"}[r.IntN(5)]
	}
	tokens := strings.Split(line, " ")
	tokens[r.IntN(len(tokens))] = []string{"", "-", "0", "00", "31", "61", "400", "9999999", "10000000", "-1"}[r.IntN(10)]
	return strings.Join(tokens, " ")
}

// anyLine is a drawn line: one that changes something, asks, or is torn.
func anyLine(r *rand.Rand, s api.ClerkSetup) string {
	all := allAsked(s)
	ask := all[r.IntN(len(all))]
	if r.IntN(2) == 0 { // words about bonds and the cellar as often as the many about minutes and hours
		_, _, cellar, quay := asked(s)
		rest := slices.Concat(cellar, quay)
		ask = rest[r.IntN(len(rest))]
	}
	switch r.IntN(8) {
	case 0:
		return ask
	case 1:
		return torn(r, ask)
	case 2:
		return torn(r, anyChange(r, s))
	}
	return anyChange(r, s)
}
