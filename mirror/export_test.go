package mirror

// Halves are asked of spans that no round comes to, too.
var Halves = halves
