package auditor

import (
	"errors"
	"testing"

	"auditbook/api"
	"auditbook/hash"
	"auditbook/head"
	"auditbook/tree"
)

func over(leaves ...string) head.Head { return head.Head{Size: len(leaves), Root: tree.Root(leaves)} }

func TestGrowth(t *testing.T) {
	beside := hash.Of("\x00b").Text()
	for _, c := range []struct {
		what      string
		old, next head.Head
		proof     []string
		want      error
	}{
		{"from nothing to nothing", over(), over(), nil, nil},
		{"from nothing", over(), over("a", "b"), nil, nil},
		{"to the same", over("a"), over("a"), nil, nil},
		{"by one", over("a"), over("a", "b"), []string{beside}, nil},
		{"a smaller one", over("a", "b"), over("a"), nil, api.ErrIndex},
		{"a smaller one, of another book", over("a", "b"), over("c"), []string{beside}, api.ErrIndex},
		{"another one", over("a"), over("b"), nil, api.ErrFork},
		{"another one, with a proof", over("a"), over("b"), []string{beside}, api.ErrFork},
		{"another nothing", over(), head.Head{}, nil, api.ErrFork},
		{"the same, with a proof", over("a"), over("a"), []string{beside}, api.ErrProof},
		{"by one, without a proof", over("a"), over("a", "b"), nil, api.ErrProof},
		{"of another book", over("c"), over("a", "b"), []string{beside}, api.ErrProof},
		{"from nothing, with a proof", over(), over("a"), []string{beside}, api.ErrProof},
	} {
		if err := checkGrowth(c.old, c.next, c.proof); !errors.Is(err, c.want) {
			t.Errorf("P19: %s: %v, want %v", c.what, err, c.want)
		}
	}
}
