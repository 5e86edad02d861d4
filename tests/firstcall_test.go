package tests

import (
	"fmt"
	"os"
	"os/exec"
	"slices"
	"strings"
	"sync"
	"testing"

	"loop.example/g00067/impl"
)

// firstCallKey names, in the environment of a process, the call that it has to make.
const firstCallKey = "FIRST_CALL"

// firstCall is a call that hangs on what is filled at start-up or once, and what it must answer. The latter is asked for by those alone that may call others, too.
type firstCall struct {
	name string
	call func() string
	want func() string
}

func firstCalls() []firstCall {
	journal := chainByWords(dayEvents())
	text := textByWords(journal)
	is := func(answer ...any) func() string { return func() string { return fmt.Sprint(answer...) } }
	return []firstCall{
		{"Chain", func() string { return fmt.Sprint(impl.Chain(dayEvents())) }, is(journal, impl.OK)},
		{"Chain at once", chainedAtOnce, is(journal, impl.OK)},
		{"CheckJournal", func() string { return fmt.Sprint(impl.CheckJournal(journal)) }, is(impl.OK, 0)},
		{"JournalText", func() string { return fmt.Sprint(impl.JournalText(journal)) }, is(text, impl.OK)},
		{"ReadJournal", func() string { return fmt.Sprint(impl.ReadJournal(text)) }, is(journal, impl.OK, 0)},
		{"Counted", func() string { return fmt.Sprint(impl.Counted(journal[:3], 551)) }, is(1, impl.OK)},
		{"PayRun", func() string { return fmt.Sprint(impl.PayRun(mixedPayActs())) }, func() string {
			codes, payments := payRunByWords(mixedPayActs())
			return fmt.Sprint(codes, payments, impl.OK)
		}},
		{"MergeEvents", func() string { return fmt.Sprint(impl.MergeEvents(mixedLog()[:7], mixedLog()[3:])) }, is(mixedLog(), impl.OK)},
		{"CodeWord", func() string { return fmt.Sprint(impl.CodeWord(impl.ErrShort)) }, is("short")},
		{"CodeOf", func() string { return fmt.Sprint(impl.CodeOf("short")) }, is(impl.ErrShort)},
	}
}

// chainedAtOnce has several first calls side by side; it answers what all of them do, or each one.
func chainedAtOnce() string {
	said := make([]string, 8)
	var wait sync.WaitGroup
	for i := range said {
		wait.Go(func() { said[i] = fmt.Sprint(impl.Chain(dayEvents())) })
	}
	wait.Wait()
	if all := slices.Compact(slices.Clone(said)); len(all) == 1 {
		return all[0]
	}
	return strings.Join(said, "; ")
}

// Each of these calls is the first one of a process of its own, so that nothing was called ahead of it.
func TestP1TheFirstCallOfAProcess(t *testing.T) {
	own, err := os.Executable()
	if err != nil {
		t.Fatal(err)
	}
	for _, c := range firstCalls() {
		process := exec.Command(own, "-test.run=^TestFirstCallAlone$")
		process.Env = append(os.Environ(), firstCallKey+"="+c.name)
		said, err := process.CombinedOutput()
		want := c.want()
		if err != nil || !strings.Contains(string(said), fmt.Sprintf("%s: %q\n", c.name, want)) {
			t.Errorf("%s, called first: %v, %.600s; want %q", c.name, err, said, want)
		}
		if now := c.call(); now != want {
			t.Errorf("%s, called later: %q; want %q", c.name, now, want)
		}
	}
}

// TestFirstCallAlone makes the call that its process is for; without one it has nothing to do.
func TestFirstCallAlone(t *testing.T) {
	for _, c := range firstCalls() {
		if c.name == os.Getenv(firstCallKey) {
			fmt.Printf("%s: %q\n", c.name, c.call())
		}
	}
}
