package parse_test

import (
	"strings"
	"testing"

	"switchback/api"
)

// Each ^ stands ahead of the first token with which no statement begins, or at the end.
const statementFaults = `
^a | ^1 | ^'begin' | ^(begin) | ^a = 1 | ^table t | ^where a | ^; | ^; begin | ^from t select a | ^- 1 | ^not a | ^count(*)
begin ^begin | begin; ^; | begin; ^begin | begin ^a | begin;^. | commit ^work | rollback ^1 | begin ^- -1 | begin ^, commit

create^ | create ^t | create ^; | create ^drop | create ^unique index i on t (c)
create table^ | create table ^( | create table ^1 | create table ^'t' | create table ^index (a int, primary key (a))
create table t^ | create table t ^a int | create table t ^; | create table t^.t (a int)
create table t (^ | create table t (^) | create table t (^, a int | create table t (^(a int) | create table t (^int int | create table t (^text text, primary key (a))
create table t (a^ | create table t (a ^, b int | create table t (a ^a | create table t (a ^integer, primary key (a)) | create table t (a ^'int' | create table t (a ^1 | create table t (a^.b int | create table t (a ^not null
create table t (a int^ | create table t (a int ^) | create table t (a int ^null | create table t (a int ^int | create table t (a int ^;
create table t (a int not^ | create table t (a int not ^not | create table t (a int not ^, | create table t (a int not null^ | create table t (a int not null ^not null | create table t (a int not null ^)
create table t (a int,^ | create table t (a int, ^) | create table t (a int, ^, b int | create table t (a int, ^key (a))
create table t (^primary key (a)) | create table t (^primary key (a), a int) | create table t (a ^primary key (a)) | create table t (a int ^primary key) | create table t (a int ^primary key, primary key (a)) | create table t (a int not null ^primary key (a)) | create table t ^primary key (a) | create table ^primary (a int, primary key (a))
create table t (a int, primary^ | create table t (a int, primary ^int | create table t (a int, primary ^(a)) | create table t (a int, primary key^ | create table t (a int, primary key ^a) | create table t (a int, primary key ^int
create table t (a int, primary key (^ | create table t (a int, primary key (^) | create table t (a int, primary key (^(a))) | create table t (a int, primary key (^1 | create table t (a int, primary key (^key))
create table t (a int, primary key (a^ | create table t (a int, primary key (a^, b)) | create table t (a int, primary key (a^.a))
create table t (a int, primary key (a)^ | create table t (a int, primary key (a)^; | create table t (a int, primary key (a)^, b int) | create table t (a int, primary key (a)^, primary key (a)) | create table t (a int, primary key (a)) ^) | create table t (a int, primary key (a)) ^a

create index^ | create index ^on t (c) | create index ^'i' on t (c) | create index i^ | create index i ^t (c) | create index i on^ | create index i on ^(c) | create index i on ^table (c)
create index i on t^ | create index i on t ^c | create index i on t (^ | create index i on t (^) | create index i on t (^(c)) | create index i on t (c^ | create index i on t (c^, d) | create index i on t (c^.d) | create index i on t (c ^+ 1) | create index i on t (c)^( | create index i on t (c)^)
drop^ | drop ^t | drop ^index i | drop table^ | drop table ^; | drop table ^'t' | drop table ^key | drop table t^, u | drop table t^.u | drop table ^(t) | drop table t ^where a

insert^ | insert ^t | insert into^ | insert into ^values (1) | insert into ^(t) values (1) | insert into t^ | insert into t ^(a) values (1) | insert into t ^1 | insert into t ^select a from t
insert into t values^ | insert into t values ^1 | insert into t values ^; | insert into t values ^, (1) | insert into t values (^ | insert into t values (^) | insert into t values (^, 1) | insert into t values (^select a from t)
insert into t values (1^ | insert into t values (1 ^2) | insert into t values (1^; | insert into t values (1,^ | insert into t values (1, ^) | insert into t values (1, ^, 2)
insert into t values (1)^(2) | insert into t values (1),^ | insert into t values (1), ^2 | insert into t values (1), ^; | insert into t values ((1^, 2)) | insert into t values (1)^) | insert into t values (1) ^where a | insert into t values (a = b ^= c)

update^ | update ^set a = 1 | update ^(t) set a = 1 | update t^ | update t ^a = 1 | update t ^where a | update t^, u set a = 1 | update t set^ | update t set ^where | update t set ^1 = 1 | update t set ^(c) = 1 | update t set ^, c = 1
update t set c^ | update t set c^.d = 1 | update t set c ^1 | update t set c ^<= 1 | update t set c ^is null | update t set c =^ | update t set c = ^where a | update t set c = ^, d = 1 | update t set c = ^= 1 | update t set c = a = b ^= d
update t set c = 1 ^d = 2 | update t set c = 1,^ | update t set c = 1, ^where a | update t set c = 1 where^ | update t set c = 1 where ^; | update t set c = 1 where a^, b | update t set c = 1 where a ^where b | update t set c = 1 ^limit 1 | update t set c = 1 ^from t

delete^ | delete ^t | delete from^ | delete from ^where a | delete from t^, u | delete from t ^a | delete from t ^= a | delete from t where^ | delete from t where ^; | delete from t where a ^b | delete from t where a^, b | delete from t where a ^where b | delete from t where a ^limit 1 | delete from t ^group by a

select^ | select ^from t | select ^; | select ^* from t | select ^, a from t | select distinct ^a from t | select a^ | select a ^; | select a ^b from t | select a ^as b from t | select a,^ | select a, ^from t | select a, ^* from t | select (a^, b) from t
select a from^ | select a from ^; | select a from ^1 | select a from ^'t' | select a from ^(t) | select a from ^where a | select a from t^, u | select a from t^.u | select a from t ^t | select a from t ^select a from t | select a from t ^on a | select a from t ^having a
select a from t join^ | select a from t join ^on a | select a from t join ^(u) on a | select a from t join u^ | select a from t join u ^; | select a from t join u ^u on a | select a from t join u ^where a | select a from t join u on^ | select a from t join u on ^where a | select a from t join u on a ^join v on a | select a from t join u on a^, b | select a from t where a ^join u on a
select a from t where^ | select a from t where ^; | select a from t where ^group by a | select a from t where a ^where a | select a from t where a^, b | select a from t group by a ^where a
select a from t group^ | select a from t group ^a | select a from t group by^ | select a from t group by ^; | select a from t group by ^1 | select a from t group by ^'a' | select a from t group by ^null | select a from t group by ^-a | select a from t group by ^not a | select a from t group by ^count(a)
select a from t group by a^, b | select a from t group by a ^+ 1 | select a from t group by a ^desc | select a from t group by (a ^+ 1) | select a from t group by (^) | select a from t group by (^1) | select a from t group by (a^ | select a from t group by (a)^) | select a from t group by a.b^.c | select a from t group by a.^ | select a from t group by a.^(b) | select a from t group by a ^group by a | select a from t order by 1 ^group by a | select a from t limit 1 ^group by a
select a from t order^ | select a from t order ^1 | select a from t order by^ | select a from t order by ^; | select a from t order by ^a | select a from t order by ^-1 | select a from t order by ^(1) | select a from t order by ^desc | select a from t order by ^'1' | select a from t order by 1 ^2 | select a from t order by 1 ^asc | select a from t order by 1 ^+ 1
select a from t order by 1,^ | select a from t order by 1, ^limit 1 | select a from t order by 1 desc ^desc | select a from t order by 1 desc ^1 | select a from t order by 1 ^order by 1 | select a from t limit 1 ^order by 1
select a from t limit^ | select a from t limit ^; | select a from t limit ^a | select a from t limit ^-1 | select a from t limit ^(1) | select a from t limit ^'1' | select a from t limit ^null | select a from t limit 1^, 2 | select a from t limit 1 ^+ 1 | select a from t limit 1 ^limit 1 | select a from t limit 1; ^;
`

func TestP51SyntaxOfStatements(t *testing.T) {
	for _, s := range []string{"^", "   ^", "\n\t^", "-- begin^", " -- begin\n^", "begin -- \n ^-"} {
		text, at := marked(s)
		refuses(t, text, at, api.ErrSyntax)
	}
	for _, line := range strings.Split(strings.TrimSpace(statementFaults), "\n") {
		for _, s := range strings.Split(line, " | ") {
			if line == "" {
				continue
			}
			text, at := marked(s)
			text, _ = marked(text)
			refuses(t, text, at, api.ErrSyntax)
			refuses(t, strings.ToUpper(text), at, api.ErrSyntax)
			refuses(t, " \n"+text, at+2, api.ErrSyntax)
			// A text that ends too early ends where its last octet does, whatever that says.
			if at == len(text) {
				refuses(t, text+" -- end", at+7, api.ErrSyntax)
			}
		}
	}
}

// A keyword is no name, wherever one is asked for; what only begins or ends with one is.
func TestP51KeywordsAreNoNames(t *testing.T) {
	places := []string{
		"drop table ", "create index ", "create index i on ", "create index i on t (", "create table ", "create table t (", "create table t (a int, primary key (",
		"insert into ", "update ", "update t set ", "delete from ", "select a from ", "select a from t join ", "select t.", "select a from t group by ", "select a from t group by t.",
	}
	words := strings.Fields("create table index on drop insert into values update set delete from where select join group by order desc limit begin commit rollback primary key not null is and or true false int bool text count sum min max")
	if len(words) != 39 {
		t.Fatalf("%d keywords", len(words))
	}
	for _, word := range words {
		for _, place := range places {
			for _, s := range []string{word, strings.ToUpper(word) + " x", "'" + word + "'", "17"} {
				refuses(t, place+s, len(place), api.ErrSyntax)
			}
		}
		for _, name := range []string{word + "s", "_" + word} {
			parses(t, "drop table "+strings.ToUpper(name), api.Stmt{Kind: 3, Table: name})
			parsesExpr(t, name+"."+name, colOf(name, name))
		}
	}
}
