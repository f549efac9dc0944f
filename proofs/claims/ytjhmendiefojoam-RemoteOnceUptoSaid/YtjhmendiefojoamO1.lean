/- Masters, and both ends of a line (pure). -/
import Derived.Test.YtjhmendiefojoamS13
namespace Go.Proofs.Ytjhmendiefojoam
open Go.RowKit Go.Shelf

/-- A master. -/
structure MaM where
  no : Int
  ph : Int
  now : Int
  pt : Int
  want : Bool
  timer : Int
  pat : Int
  tries : Int
  lim : Int
  gave : Bool
def MaM.cells (M : MaM) : Array Value := #[.int .i64 M.no, .int .i64 M.ph, .int .i64 M.now, .int .i64 M.pt, .bool M.want, .int .i64 M.timer, .int .i64 M.pat, .int .i64 M.tries, .int .i64 M.lim, .bool M.gave]
def MaM.rest (M : MaM) : MaM := ⟨M.no, 0, 0, 0, false, 0, M.pat, 0, M.lim, M.gave⟩
def MaM.giveUp (M : MaM) : MaM := ⟨M.no, 0, 0, 0, false, 0, M.pat, 0, M.lim, true⟩
def MaM.enter (M : MaM) (p : Int) : MaM := ⟨M.no, p, M.now, M.pt, M.want, 0, M.pat, 1, M.lim, M.gave⟩
def MaM.msg (M : MaM) : MsM := ⟨M.ph, M.now, M.pt, M.want⟩
structure MaM.Busy (M : MaM) : Prop where
  ph : M.ph = 1 ∨ M.ph = 3
  now : M.now = M.no - 1
  pt : 0 ≤ M.pt ∧ M.pt ≤ 15
  timer : 0 ≤ M.timer ∧ M.timer ≤ M.pat - 1
  tries : 1 ≤ M.tries ∧ M.tries ≤ M.lim
  gave : M.gave = false
structure MaM.May (M : MaM) : Prop where
  pat : 1 ≤ M.pat ∧ M.pat ≤ 1000
  lim : 1 ≤ M.lim ∧ M.lim ≤ 100
  no : 0 ≤ M.no ∧ M.no ≤ 1000000001
  st : M = M.rest ∨ M.Busy
/-- What becomes of a master that asks, hears, waits; and what it sends. -/
def askM (M : MaM) (p : Int) (w : Bool) : MaM := ⟨M.no + 1, 1, M.no, p, w, 0, M.pat, 1, M.lim, false⟩
def heardM (M : MaM) (a : MsM) : MaM :=
  if M.ph = 0 ∨ a.no ≠ M.now then M else if a.kind = 2 then (if M.ph = 1 then M.enter 3 else M) else if a.kind = 4 then M.rest else (if M.ph = 3 then M.enter 1 else M.giveUp)
def heardL (M : MaM) (a : MsM) : List MsM :=
  if M.ph = 0 ∨ a.no ≠ M.now then [] else if a.kind = 2 then (if M.ph = 1 then [(M.enter 3).msg] else []) else if a.kind = 4 then [] else (if M.ph = 3 then [(M.enter 1).msg] else [])
def MaM.wait (M : MaM) : MaM := ⟨M.no, M.ph, M.now, M.pt, M.want, M.timer + 1, M.pat, M.tries, M.lim, M.gave⟩
def MaM.again (M : MaM) : MaM := ⟨M.no, M.ph, M.now, M.pt, M.want, 0, M.pat, M.tries + 1, M.lim, M.gave⟩
def waitM (M : MaM) : MaM := if M.ph = 0 then M else if M.timer + 1 < M.pat then M.wait else if M.tries = M.lim then M.giveUp else M.again
def waitL (M : MaM) : List MsM := if M.ph = 0 then [] else if M.timer + 1 < M.pat then [] else if M.tries = M.lim then [] else [M.again.msg]
/-- A station that hears. -/
def hearS (l : List Bool) (S : StM) (x : MsM) : List Bool × StM × Int :=
  if x.kind = 1 then
    (if x.no = S.last then (l, S, 4) else if x.no < S.last ∨ x.no < S.armed then (l, S, 0) else if ¬ (0 ≤ x.pt ∧ x.pt ≤ (l.length : Int) - 1) then (l, S, 5) else (l, ⟨S.last, x.no, x.pt, x.wt, S.pat, S.pat⟩, 2))
  else
    (if x.no = S.last then (l, S, 4) else if x.no < S.last then (l, S, 0) else if x.no ≠ S.armed ∨ x.pt ≠ S.point ∨ x.wt ≠ S.want then (l, S, 5) else (l.set x.pt.toNat x.wt, ⟨x.no, -1, 0, false, 0, S.pat⟩, 4))
/-- Both ends, and what is on the way. -/
structure Wl where
  m : MaM
  l : List Bool
  s : StM
  down : List MsM
  up : List MsM
  old : List MsM
  asked : List MsM
  acted : List Int
def Wl.sent (W : Wl) (M : MaM) (o : List MsM) : Wl := ⟨M, W.l, W.s, W.down ++ o, W.up, W.old ++ o, W.asked, W.acted⟩
def Wl.hear (W : Wl) (x : MsM) : Wl := ⟨W.m, (hearS W.l W.s x).1, (hearS W.l W.s x).2.1, W.down, W.up ++ replyL x (hearS W.l W.s x).2.2, W.old, W.asked, if (hearS W.l W.s x).2.1.last ≠ W.s.last then W.acted ++ [(hearS W.l W.s x).2.1.last] else W.acted⟩
def pickedI (n k : Int) : Int := (if n < 0 then -(n + 1) else n).tmod k
def pickK (n : Nat) (mix : Int) : Nat := if 1 < n ∧ mix.tmod 3 = 1 then (pickedI (mix.tdiv 3) n).toNat else 0
def noMsg : MsM := ⟨0, 0, 0, false⟩
def Wl.down1 (W : Wl) (d : List MsM) : Wl := ⟨W.m, W.l, W.s, d, W.up, W.old, W.asked, W.acted⟩
def Wl.up1 (W : Wl) (d : List MsM) : Wl := ⟨W.m, W.l, W.s, W.down, d, W.old, W.asked, W.acted⟩
/-- Is the i-th message lost? -/
def lostB (lose : Int) (i : Nat) : Bool := decide (lose / 2 ^ (i % 60) % 2 ≠ 0)
def downW (come mix lose : Int) : Nat → Nat → Wl → Wl
  | 0, _, W => W
  | f + 1, i, W => if (i : Int) < come then
      downW come mix lose f (i + 1) (if lostB lose i then W.down1 (W.down.eraseIdx (pickK W.down.length (wrap64 (mix + i)))) else (W.down1 (W.down.eraseIdx (pickK W.down.length (wrap64 (mix + i))))).hear (W.down.getD (pickK W.down.length (wrap64 (mix + i))) noMsg))
      else W
def upW (come mix : Int) (deaf : Bool) : Nat → Nat → Wl → Wl
  | 0, _, W => W
  | f + 1, i, W => if (i : Int) < come then
      upW come mix deaf f (i + 1) (if deaf then W.up1 (W.up.eraseIdx (pickK W.up.length (wrap64 (mix.tdiv 7 + i)))) else (W.up1 (W.up.eraseIdx (pickK W.up.length (wrap64 (mix.tdiv 7 + i))))).sent (heardM W.m (W.up.getD (pickK W.up.length (wrap64 (mix.tdiv 7 + i))) noMsg)) (heardL W.m (W.up.getD (pickK W.up.length (wrap64 (mix.tdiv 7 + i))) noMsg)))
      else W
/-- What happens in a tick. -/
structure TuM where
  ask : Int
  want : Bool
  come : Int
  lose : Int
  again : Int
  mix : Int
  deaf : Bool
def TuM.cells (t : TuM) : Array Value := #[.int .i64 t.ask, .bool t.want, .int .i64 t.come, .int .i64 t.lose, .int .i64 t.again, .int .i64 t.mix, .bool t.deaf]
def askW (W : Wl) (t : TuM) : Wl :=
  if (t.ask.tmod 2 = 1 ∨ t.ask.tmod 2 = -1) ∧ W.m.ph = 0 then
    (⟨W.m, W.l, W.s, W.down, W.up, W.old, W.asked ++ [⟨0, W.asked.length, pickedI (t.ask.tdiv 2) 4, t.want⟩], W.acted⟩ : Wl).sent (askM W.m (pickedI (t.ask.tdiv 2) 4) t.want) [(askM W.m (pickedI (t.ask.tdiv 2) 4) t.want).msg]
  else W
def againW (W : Wl) (t : TuM) : Wl := if 0 < W.old.length ∧ t.again.tmod 3 = 1 then W.down1 (W.down ++ [W.old.getD (pickedI (t.again.tdiv 3) W.old.length).toNat noMsg]) else W
def tickDn (W : Wl) (t : TuM) : Wl := downW t.come t.mix t.lose (againW (askW W t) t).down.length 0 (againW (askW W t) t)
def Wl.tickS (W : Wl) : Wl := ⟨W.m, W.l, Ytjhmendiefojoam.tickS W.s, W.down, W.up, W.old, W.asked, W.acted⟩
def tickUp (W : Wl) (t : TuM) : Wl := upW t.come t.mix t.deaf W.up.length 0 W
def tickW (W : Wl) (t : TuM) : Wl := (tickUp (tickDn W t).tickS t).sent (waitM (tickUp (tickDn W t).tickS t).m) (waitL (tickUp (tickDn W t).tickS t).m)
/-- What is so, whatever has happened in T ticks. -/
structure Inv (pat lim : Int) (P : Int) (T : Nat) (W : Wl) : Prop where
  may : W.m.May
  mp : W.m.pat = pat ∧ W.m.lim = lim
  no : W.m.no = W.asked.length
  nT : W.asked.length ≤ T
  l4 : W.l.length = 4
  sm : mayS 4 W.s = true
  sp : W.s.pat = P
  ak : ∀ (k : Nat) (c : MsM), W.asked[k]? = some c → c.no = k ∧ 0 ≤ c.pt ∧ c.pt ≤ 3
  dn : ∀ x ∈ W.down, (x.kind = 1 ∨ x.kind = 3) ∧ ∃ (k : Nat) (c : MsM), x.no = k ∧ W.asked[k]? = some c ∧ c.pt = x.pt ∧ c.wt = x.wt
  od : ∀ x ∈ W.old, (x.kind = 1 ∨ x.kind = 3) ∧ ∃ (k : Nat) (c : MsM), x.no = k ∧ W.asked[k]? = some c ∧ c.pt = x.pt ∧ c.wt = x.wt
  up : ∀ x ∈ W.up, x.kind = 2 ∨ x.kind = 4 ∨ x.kind = 5
  bz : W.m.ph ≠ 0 → ∃ (k : Nat) (c : MsM), W.m.now = k ∧ W.asked[k]? = some c ∧ c.pt = W.m.pt ∧ c.wt = W.m.want
  la : W.s.last < W.asked.length
  ar : W.s.armed ≠ -1 → ∃ (k : Nat) (c : MsM), W.s.armed = k ∧ W.asked[k]? = some c ∧ c.pt = W.s.point ∧ c.wt = W.s.want
  ac : (W.acted = [] ∧ W.s.last = -1) ∨ (∃ a, W.acted = a ++ [W.s.last] ∧ 0 ≤ W.s.last)
end Go.Proofs.Ytjhmendiefojoam
