package daemon

// form is how a command is written and what it does.
type form struct {
	word  string
	args  string // see mayArgue
	block bool
	do    func(*player, command) // nil of the plan, which is there ahead of all commands
}

// forms are those of all commands.
func forms() []form {
	return []form{
		{"plan", "+", false, nil},
		{"from", "w", false, (*player).from},
		{"datagram", "", true, (*player).datagram},
		{"tick", "n", false, (*player).tick},
		{"shut", "", false, (*player).shut},
		{"ledger", "", false, (*player).ledger},
		{"find", "w", false, (*player).find},
		{"render", "nn+", false, (*player).render},
		{"names", "", false, (*player).names},
		{"sink", "", false, (*player).sink},
		{"mute", "wn", false, (*player).mute},
		{"state", "w", false, (*player).state},
		{"down", "w", false, (*player).down},
		{"up", "w", false, (*player).up},
		{"take", "wn", false, (*player).take},
		{"relay", "", false, (*player).relay},
	}
}
