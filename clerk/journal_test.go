package clerk

import (
	"strings"
	"testing"

	"huer/api"
)

// full is a clerk with a journal of so many lines, which is more than there can be cries, notes, lots and bonds.
func full(t *testing.T, lines int) *Clerk {
	t.Helper()
	c, e := New(api.ClerkSetup{Cry: api.CryBook{Wide: 3, High: 3}, Holds: [3]api.Span{{Low: 4, High: 4}, {Low: 9, High: 9}, {Low: 5, High: 6}}, Names: []string{"penrose"}})
	if e != api.OK {
		t.Fatal(e)
	}
	for range lines {
		c.journal = append(c.journal, "note 2 5 0 0")
	}
	return c
}

// TestJournalFull is of P11.2: a journal has no more than 200 lines, which is said behind the form of a line, and before all else of it; what is asked needs no room.
func TestJournalFull(t *testing.T) {
	c := full(t, api.ClerkJournal)
	for _, line := range []string{"buy kersey 0 1 1", "note 5 5 0 0", "lot 1 1 9 - 0 0", "cry 0 0 0 9 1 9 1", "buy penrose 1 1 1"} {
		if answer, e := c.Do(line); answer != "" || e != api.ErrFull {
			t.Errorf("%q: %q, %d", line, answer, e)
		}
	}
	if len(c.Journal()) != api.ClerkJournal || len(c.Bonds())+len(c.Notes())+len(c.Lots())+len(c.Cries()) > 0 {
		t.Errorf("the journal: %d lines", len(c.Journal()))
	}
	for line, want := range map[string]api.Errno{"buy penrose 1 1": api.ErrClerkLine, "whose kersey": api.ErrClerkUnknown, "whose penrose": api.OK, "where 31": api.ErrRange} {
		if _, e := c.Do(line); e != want {
			t.Errorf("%q: %d", line, e)
		}
	}
	c = full(t, api.ClerkJournal-1)
	if answer, e := c.Do("buy penrose 1 1 1"); answer != "0 0" || e != api.OK {
		t.Errorf("the last line: %q, %d", answer, e)
	}
	if _, e := c.Do("buy penrose 1 1 1"); e != api.ErrFull || !strings.HasSuffix(c.File(), "note 2 5 0 0\nbuy penrose 1 1 1\n") {
		t.Errorf("behind the last line: %d", e)
	}
}

// TestOtherPanic is of P1: whatever else fails within a line is an error, too.
func TestOtherPanic(t *testing.T) {
	for _, reason := range []any{"text", 7, nil} {
		if e := errorOf(reason); e != api.ErrClerkLine {
			t.Errorf("errorOf %v: %d", reason, e)
		}
	}
}
