package rules

// landed is how many stages are built.
const landed = 39

// stage is a layer's package, the packages that it may call, and the ways of the language that it leans on.
type stage struct {
	name  string
	calls string
	ways  string
}

// stages are the layers, in their order.
var stages = []stage{
	{"field", "api", "array variadic range-integer"},
	{"num", "api", "closure variadic"},
	{"handle", "api field num", "map struct-compared fallthrough"},
	{"vword", "api field handle", "iota closure variadic"},
	{"aword", "api field", "iota fallthrough"},
	{"hword", "api field", "variadic closure"},
	{"config", "api num", "errors-is errors-as constant-table"},
	{"layout", "api field config", "iota struct-compared"},
	{"memory", "api layout", "embedding promoted variadic three-index"},
	{"arena", "api handle vword hword layout memory", "range-function map closure"},
	{"seek", "api", "iota closure"},
	{"leaf", "api seek", "generic-function three-index variadic"},
	{"inner", "api seek", "generic-function closure defer panic recover"},
	{"plan", "api handle vword layout arena leaf inner", "embedding promoted closure variadic"},
	{"stack", "api hword layout", "iota struct-compared method-value"},
	{"limbo", "api handle", "generic-function closure array map"},
	{"enter", "api aword layout", "iota closure struct-compared"},
	{"advance", "api aword layout", "iota fallthrough range-function"},
	{"sweep", "api handle layout stack limbo", "embedding promoted generic-function closure iota"},
	{"walk", "api handle vword config layout seek", "iota struct-compared embedding promoted variadic"},
	{"model", "api seek", "variadic range-function closure"},
	{"read", "api handle layout seek walk", "embedding promoted variadic iota"},
	{"edit", "api handle vword layout plan walk", "iota method-expression embedding promoted"},
	{"fix", "api handle vword layout plan walk", "iota fallthrough closure embedding promoted"},
	{"write", "api handle config layout seek stack walk edit fix", "iota variadic generic-function"},
	{"task", "api handle layout stack limbo enter advance sweep model read write", "iota fallthrough variadic method-value"},
	{"machine", "api layout memory arena sweep model task", "embedding promoted variadic closure"},
	{"script", "api num model", "defer panic recover variadic"},
	{"history", "api model", "map delete closure range-function"},
	{"order", "api model history", "constant-table map errors-is"},
	{"linear", "api model history", "map struct-compared array array-compared label"},
	{"scans", "api model history order", "generic-function closure label"},
	{"census", "api arena sweep machine", "closure generic-function map range-map"},
	{"shape", "api handle vword memory arena", "closure map struct-compared"},
	{"audit", "api handle aword hword layout memory arena", "iota constant-table map struct-compared range-function"},
	{"bound", "api config machine", "closure label variadic"},
	{"explore", "api model machine shape bound", "map struct-compared range-function closure"},
	{"dump", "api num handle vword memory arena script", "closure variadic generic-function"},
	{"console", "api num config machine script order scans census shape audit dump", "closure defer panic recover embedding promoted"},
}
