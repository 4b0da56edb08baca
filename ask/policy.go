package ask

import (
	"hustings/api"
	"hustings/merge"
	"hustings/tally"
)

// decision is by what a question is decided.
type decision struct {
	verdict        api.Verdict
	time           uint32
	agree, dissent []int
}

// policy is how ballots decide a question.
type policy interface {
	// decide returns the decision, if the ballots suffice for one.
	decide(b *tally.Box) (decision, bool)
	// backing returns how many votes there are that those of open upstreams can add to.
	backing(b *tally.Box) int
}

// strict is decided by as many votes for the same verdict as the box wants.
type strict struct{}

func (strict) decide(b *tally.Box) (decision, bool) {
	v, time, by, is := b.Won()
	return decision{verdict: v, time: time, agree: by, dissent: b.Against()}, is
}

func (strict) backing(b *tally.Box) int {
	return b.Most()
}

// trusted is decided by the first vote.
type trusted struct{}

func (trusted) decide(b *tally.Box) (decision, bool) {
	votes := b.Votes()
	if len(votes) == 0 {
		return decision{}, false
	}
	return decision{verdict: votes[0].Verdict, time: votes[0].Time}, true
}

func (trusted) backing(b *tally.Box) int {
	return len(b.Votes())
}

// union is decided by the combination of so many votes.
type union struct {
	question api.Question
	want     int
}

func (u union) decide(b *tally.Box) (decision, bool) {
	votes := b.Votes()
	if len(votes) < u.want {
		return decision{}, false
	}
	v, time, is := merge.Union(u.question, votes)
	return decision{verdict: v, time: time}, is
}

func (union) backing(b *tally.Box) int {
	return len(b.Votes())
}

// policyOf returns the policy of a zone for a question, and how many votes it wants.
func policyOf(z api.Zone, q api.Question, lies int) (policy, int) {
	switch z.Policy {
	case api.Trusted:
		return trusted{}, 1
	case api.Union:
		return union{question: q, want: lies + 1}, lies + 1
	}
	return strict{}, lies + 1
}
