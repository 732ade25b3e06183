package finisher

import (
	"maps"
	"slices"
	"testing"
)

// table returns the first words of the lines of the table, in their order.
func table() []string {
	return []string{"back", "cur", "edition", "mark", "part", "sell", "take"}
}

// P14.1: what does the lines of a kind is there before main, for each kind of the table and no other one, and commandOf finds it.
func TestCommands(t *testing.T) {
	if kinds := slices.Sorted(maps.Keys(commands)); !slices.Equal(kinds, table()) {
		t.Errorf("commands has %q, not %q", kinds, table())
	}
	for _, kind := range table() {
		if commands[kind] == nil || commandOf(kind) == nil {
			t.Errorf("nothing does %s lines", kind)
		}
	}
	for _, kind := range []string{"", "what", "Take", "takes", "end", "pianola"} {
		if commandOf(kind) != nil {
			t.Errorf("something does %s lines", kind)
		}
	}
}

// answers returns all that a new book answers to lines of all kinds, done and with errors, and what is read of its file.
func answers() []any {
	lines := []string{"cur mark 3/2", "take t", "part t ana 333", "edition e t 7 mark", "mark m", "sell e 5", "back m", "sell e 4", "back n", "what", ""}
	b := New()
	var all []any
	text := ""
	for _, line := range lines {
		all = append(all, b.Do(line))
		text += line + "\n"
	}
	other := New()
	done, e := other.Run(text)
	received, none := b.Received("t")
	all = append(all, done, e, received, none, b.House(), b.File(), other.File())
	for _, line := range slices.Concat(b.Lines(), other.Lines()) {
		all = append(all, line)
	}
	for _, account := range slices.Concat(b.Accounts(), other.Accounts()) {
		all = append(all, account)
	}
	read, e := Read(b.File())
	return append(all, e, read.File())
}

// P1, P14.1: no answer is computed with the variable commands: all are the same without what it has.
func TestCommandsDecideNothing(t *testing.T) {
	want := answers()
	filled := commands
	defer func() { commands = filled }()
	commands = nil
	if got := answers(); !slices.Equal(got, want) {
		t.Errorf("without commands: %v, not %v", got, want)
	}
}
