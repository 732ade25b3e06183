package finisher

// received returns what a take has received.
func (b *Book) received(take string) int {
	cents := 0
	for edition := range b.told("edition") {
		if edition.names[1] == take {
			cents += b.receivedFor(edition)
		}
	}
	return cents
}

// receivedFor returns what an edition has received.
func (b *Book) receivedFor(edition line) int {
	copies, price := b.sum("sell", edition.names[0]), edition.numbers[0]
	worth := b.find("cur", edition.names[2]).numbers
	return copies * price * worth[0] / worth[1]
}

// accounts returns the accounts of all artists.
func (b *Book) accounts() map[string]int {
	cents := map[string]int{}
	for take := range b.told("take") {
		received := b.received(take.names[0])
		for part := range b.told("part", take.names[0]) {
			cents[part.names[1]] += received * part.numbers[0] / whole
		}
	}
	return cents
}

// house returns what no artist gets.
func (b *Book) house() int {
	cents := 0
	for take := range b.told("take") {
		cents += b.received(take.names[0])
	}
	for _, account := range b.accounts() {
		cents -= account
	}
	return cents
}
