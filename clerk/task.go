package clerk

import (
	"strings"

	"huer/api"
)

// task is a line that is done: the state behind it, which is not that of the clerk until all has succeeded, what the line does, and what it tells.
type task struct {
	state
	deed
	line    string
	numbers []int
	name    string // empty, if it tells none
	who     merchant
}

// newTask returns the task of a line behind a state; it fails unless the line has the form.
func newTask(s state, line string) *task {
	require(len(line) <= api.ClerkLine && strings.IndexByte(line, lineEnd) < 0, api.ErrClerkLine)
	next := tokensOf(line)
	word, _ := next()
	done, is := deeds()[word]
	require(is, api.ErrClerkLine)
	t := &task{state: s, deed: done, line: line}
	t.read(next)
	return t
}

// read reads all tokens behind the word of the line; it fails unless they are as the form of the line says.
func (t *task) read(next func() (string, bool)) {
numbers:
	for at := range len(t.form) {
		token, is := next()
		require(is, api.ErrClerkLine)
		switch t.form[at] {
		case asText:
			require(token != "", api.ErrClerkLine)
			t.name = token
			continue numbers
		case asCount:
			if token == nothing {
				t.numbers = append(t.numbers, api.BulkNone)
				continue numbers
			}
		}
		t.numbers = append(t.numbers, numberOf(token))
	}
	_, more := next()
	require(!more, api.ErrClerkLine)
}

// answered does what the line tells, and returns its answer. It fails with the first error that applies, once the line has the form.
func (t *task) answered() string {
	if t.changes() {
		require(shelf{len(t.journal), api.ClerkJournal}.hasRoom(), api.ErrFull)
	}
	if t.name != "" {
		t.who = t.named(t.name)
	}
	return t.does(t)
}
