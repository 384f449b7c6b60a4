/- The abstract machine, part Q: a box of bytes that is drawn from; contracts that tell less than the answer. -/
import Derived.Test.YtegoncendpboiaaAmP
namespace Go.Am
open Go.RowKit

def bytesOk (bs : List Int) : Prop := ∀ z ∈ bs, 0 ≤ z ∧ z ≤ 255
def boxCells (bs : List Int) (p : Int) : List AV := [.sl 1 bs.length (bs.map (.int .u8)), .int .i64 p]
theorem boxCells_prot (bs : List Int) (p : Int) : protL (boxCells bs p) = true := by
  simp [boxCells, protL, AV.prot, scalL_prot (scalL_ints _ bs)]
theorem boxCells_tree {s : St} {T : List Nat} (bs : List Int) (p : Int) : (boxCells bs p).mapM (s.tree T 4) = some (boxCells bs p) := by
  have h1 : s.tree T 4 (.sl 1 bs.length (bs.map (.int .u8))) = some (.sl 1 bs.length (bs.map (.int .u8))) := tree_sl (pureL_ints _ bs)
  have h2 : s.tree T 4 (.int .i64 p) = some (.int .i64 p) := rfl
  simp [boxCells, List.mapM_cons, h1, h2]

theorem pureL_box (bs : List Int) (p : Int) : pureL [.sl 1 bs.length (bs.map (.int .u8)), .int .i64 p] = true := by
  simp [pureL, AV.pure, pureL_ints]
/-- A function that draws from a box, its first argument, at most K times. -/
def fnD {ι : Type} (t : TypeId) (K : ι → Int) (args : ι → List AV) (pre : ι → Prop) (post : ι → AV → List Row → Prop) : CSpec :=
  { ι := ι × List Int × Int, inout := [], args := fun | (x, _, _) => .ptr 0 0 0 :: args x, ins := fun | (_, bs, p) => [⟨0, t, 2, [.sl 1 bs.length (bs.map (.int .u8)), .int .i64 p]⟩],
    pre := fun | (x, bs, p) => pre x ∧ bytesOk bs ∧ 0 ≤ p ∧ p + K x ≤ 1000000000,
    post := fun | (x, bs, p) => fun r ic news => ∃ p', (0 ≤ p' ∧ p' ≤ p + K x) ∧ ic = [boxCells bs p'] ∧ post x r news }

theorem callD_in {P : Program} {f : FuncId} {ι : Type} {t : TypeId} {K : ι → Int} {args : ι → List AV} {pre : ι → Prop} {post : ι → AV → List Row → Prop} (hs : Sound P f (fnD t K args pre post)) (x : ι) (hpre : pre x)
    {env : List AV} {rows : List Row} {ctr low τ ver : Nat} {bs : List Int} {p : Int} {us : List AV} {k : AV → St → Prop} (hr : rows[τ]? = some ⟨ver, t, 2, boxCells bs p⟩) (hb : bytesOk bs) (hp : 0 ≤ p ∧ p + K x ≤ 1000000000)
    (ha : callArgs ⟨env, rows, ctr, low⟩ [τ] [] us = some (args x))
    (hk : ∀ p' r news, 0 ≤ p' → p' ≤ p + K x → post x r news → k (r.back ⟨env, rows, ctr, low⟩ [τ]) ⟨env, setRows rows [τ] [boxCells bs p'] ++ St.news ⟨env, rows, ctr, low⟩ [τ] news, ctr + 1, low⟩) :
    CallG P f ⟨env, rows, ctr, low⟩ (.ptr τ ver 0 :: us) k := by
  refine .inr ⟨[τ], _, hs, .ptr 0 0 0 :: args x, [⟨0, t, 2, boxCells bs p⟩], by simp, ?_, ?_, (x, bs, p), rfl, rfl, ⟨hpre, hb, hp⟩, ?_⟩
  · have e1 : callArg ⟨env, rows, ctr, low⟩ [τ] false (.ptr τ ver 0) = some (.ptr 0 0 0) := by
      simp [callArg, AV.ren, hr]
    show (callArg ⟨env, rows, ctr, low⟩ [τ] false (.ptr τ ver 0)).bind (fun u' => (callArgs ⟨env, rows, ctr, low⟩ [τ] [] us).map (u' :: ·)) = _
    rw [e1, ha]
    rfl
  · simp [insOf, hr, protL_ren (boxCells_prot bs p)]
  · rintro r ic news ⟨p', ⟨h1, h2⟩, rfl, h3⟩ _
    have e : (⟨env, rows, ctr, low⟩ : St).after [τ] [boxCells bs p'] news = ⟨env, setRows rows [τ] [boxCells bs p'] ++ St.news ⟨env, rows, ctr, low⟩ [τ] news, ctr + 1, low⟩ := by
      simp [St.after, protL_back (boxCells_prot bs p')]
    rw [e]
    exact hk p' r news h1 h2 h3

/-- One list of numbers that a row holds, as an argument beside a box. -/
theorem arg_ints {s : St} {τ τ' ver n : Nat} {t : TypeId} {zs : List Int} (hr : s.rows[τ']? = some ⟨ver, t, 1, zs.map (.int .i64)⟩) (hn : n = zs.length) (hne : τ' ≠ τ) : callArg s [τ] false (.ref τ' ver 0 n) = some (.sl 0 zs.length (zs.map (.int .i64))) := by
  subst hn
  exact tree_ref hr ⟨rfl, by simp, by simpa using hne⟩ (by
    have : ((zs.map (AV.int .i64)).drop 0).take (zs.length * 1) = zs.map (.int .i64) := by rw [Nat.mul_one, List.drop_zero]; exact List.take_of_length_le (by simp)
    rw [this]; exact scalL_tree (scalL_ints _ _))

/-- What comes back of a call with one row that is written. -/
theorem back_in {s : St} {τ off n v i : Nat} : (AV.ref (i + 1) v off n).back s [τ] = .ref (i + s.rows.length) s.ctr off n := by
  simp [AV.back, backT, backV]
theorem val_back {s : St} {T : List Nat} {u : AV} (h : u.val.isSome = true) : u.back s T = u := prot_back (scal_prot h)

theorem news_box {s : St} {T : List Nat} {v : Nat} {t : TypeId} {bs : List Int} {p : Int} : s.news T [⟨v, t, 2, [.sl 1 bs.length (bs.map (.int .u8)), .int .i64 p]⟩] = [⟨s.ctr, t, 2, [.sl 1 bs.length (bs.map (.int .u8)), .int .i64 p]⟩] := by
  have := protL_back (s := s) (T := T) (boxCells_prot bs p)
  simp only [boxCells] at this
  simp [St.news, this]
theorem news_row {s : St} {T : List Nat} {v : Nat} {t : TypeId} {zs : List Int} : s.news T [⟨v, t, 1, zs.map (.int .i64)⟩] = [⟨s.ctr, t, 1, zs.map (.int .i64)⟩] := by
  simp [St.news, protL_back (protL_ints .i64 zs)]
theorem news_rows2 {s : St} {T : List Nat} {v v' : Nat} {t t' : TypeId} {xs ys : List Int} : s.news T [⟨v, t, 1, xs.map (.int .i64)⟩, ⟨v', t', 1, ys.map (.int .i64)⟩] = [⟨s.ctr, t, 1, xs.map (.int .i64)⟩, ⟨s.ctr, t', 1, ys.map (.int .i64)⟩] := by
  simp [St.news, protL_back (protL_ints .i64 xs), protL_back (protL_ints .i64 ys)]

/-- The end of a function that draws: the first row is the box; other rows are handed back. -/
theorem retD1 {env : List AV} {ctr ver : Nat} {t : TypeId} {bs : List Int} {p p' K : Int} {rest : List Row} {u r : AV} {L : List Nat} {news : List Row} {Q : AV → List Row → Prop} (hL : (0 :: L).Nodup)
    (hn : insOf ⟨env, ⟨ver, t, 2, boxCells bs p'⟩ :: rest, ctr, 1⟩ (0 :: L) L = some news) (hr : u.ren ⟨env, ⟨ver, t, 2, boxCells bs p'⟩ :: rest, ctr, 1⟩ (0 :: L) = some r) (hp : 0 ≤ p' ∧ p' ≤ p + K) (hq : Q r news) :
    RetB ⟨env, ⟨ver, t, 2, boxCells bs p'⟩ :: rest, ctr, 1⟩ [⟨0, t, 2, boxCells bs p⟩] (fun r ic news => ∃ p', (0 ≤ p' ∧ p' ≤ p + K) ∧ ic = [boxCells bs p'] ∧ Q r news) u := by
  refine RetB1.ret ⟨L, ⟨0, t, 2, boxCells bs p'⟩ :: news, r, [boxCells bs p'], news, hL, ?_, hr, rfl, rfl, p', hp, rfl, hq⟩
  show insOf _ (0 :: L) (0 :: L) = _
  have hn' : List.mapM (fun τ => ((⟨ver, t, 2, boxCells bs p'⟩ :: rest)[τ]?).bind fun r => (renL ⟨env, ⟨ver, t, 2, boxCells bs p'⟩ :: rest, ctr, 1⟩ (0 :: L) r.cells).map fun c => ({ r with ver := 0, cells := c } : Row)) L = some news := hn
  unfold insOf
  rw [List.mapM_cons, hn']
  simp [protL_ren (boxCells_prot bs p')]

/-- The end of a function that draws: a plain answer. -/
theorem retDV {env : List AV} {ctr ver : Nat} {t : TypeId} {bs : List Int} {p p' K : Int} {rest : List Row} {u : AV} {Q : AV → List Row → Prop} (hu : u.val.isSome = true) (hp : 0 ≤ p' ∧ p' ≤ p + K) (hq : Q u []) :
    RetB ⟨env, ⟨ver, t, 2, boxCells bs p'⟩ :: rest, ctr, 1⟩ [⟨0, t, 2, boxCells bs p⟩] (fun r ic news => ∃ p', (0 ≤ p' ∧ p' ≤ p + K) ∧ ic = [boxCells bs p'] ∧ Q r news) u :=
  retD1 (L := []) (by simp) rfl (prot_ren (scal_prot hu)) hp hq
/-- A new row of numbers. -/
theorem retDL {env : List AV} {ctr ver ver2 τ n : Nat} {t t2 : TypeId} {bs zs : List Int} {p p' K : Int} {rest : List Row} {Q : AV → List Row → Prop} (hp : 0 ≤ p' ∧ p' ≤ p + K)
    (hr : rest[τ]? = some ⟨ver2, t2, 1, zs.map (.int .i64)⟩) (hn : n = zs.length) (hq : Q (.ref 1 0 0 zs.length) [⟨0, t2, 1, zs.map (.int .i64)⟩]) :
    RetB ⟨env, ⟨ver, t, 2, boxCells bs p'⟩ :: rest, ctr, 1⟩ [⟨0, t, 2, boxCells bs p⟩] (fun r ic news => ∃ p', (0 ≤ p' ∧ p' ≤ p + K) ∧ ic = [boxCells bs p'] ∧ Q r news) (.ref (τ + 1) ver2 0 n) := by
  subst hn
  have hr' : (⟨ver, t, 2, boxCells bs p'⟩ :: rest)[τ + 1]? = some ⟨ver2, t2, 1, zs.map (.int .i64)⟩ := by simpa using hr
  refine retD1 (L := [τ + 1]) (by simp) ?_ ?_ hp hq
  · simp [insOf, hr, protL_ren (protL_ints .i64 zs)]
  · simp [AV.ren, hr, List.idxOf, List.findIdx_cons]

/-- Plain arguments; of the answer and its rows something is told. -/
def fnP {ι : Type} (args : ι → List AV) (pre : ι → Prop) (post : ι → AV → List Row → Prop) : CSpec :=
  { ι := ι, inout := [], args := args, ins := fun _ => [], pre := pre, post := fun x r ic news => ic = [] ∧ post x r news }
theorem callP_in {P : Program} {f : FuncId} {ι : Type} {args : ι → List AV} {pre : ι → Prop} {post : ι → AV → List Row → Prop} (hs : Sound P f (fnP args pre post)) (x : ι) (hpre : pre x) {env : List AV} {rows : List Row} {ctr low : Nat} {k : AV → St → Prop}
    (hk : ∀ r news, post x r news → k (r.back ⟨env, rows, ctr, low⟩ []) ⟨env, rows ++ St.news ⟨env, rows, ctr, low⟩ [] news, ctr + 1, low⟩) : CallB P f ⟨env, rows, ctr, low⟩ (args x) k :=
  callB_in (sp := fnP args pre post) hs rfl x rfl hpre (by
    rintro r news ⟨-, h⟩
    exact hk r news h)

/-- The end of a function without rows that are written: rows are handed back. -/
theorem retP1 {env : List AV} {rows : List Row} {ctr : Nat} {u r : AV} {L : List Nat} {news : List Row} {Q : AV → List Row → Prop} (hL : L.Nodup) (hn : insOf ⟨env, rows, ctr, 0⟩ L L = some news) (hr : u.ren ⟨env, rows, ctr, 0⟩ L = some r) (hq : Q r news) :
    RetB ⟨env, rows, ctr, 0⟩ [] (fun r ic news => ic = [] ∧ Q r news) u :=
  RetB1.ret ⟨L, news, r, [], news, by simpa using hL, by simpa using hn, by simpa using hr, rfl, rfl, rfl, hq⟩

/-- A new box. -/
theorem retBox {env : List AV} {rows : List Row} {ctr τ ver : Nat} {t : TypeId} {bs : List Int} {p : Int} {Q : AV → List Row → Prop} (hr : rows[τ]? = some ⟨ver, t, 2, boxCells bs p⟩) (hq : Q (.ptr 0 0 0) [⟨0, t, 2, boxCells bs p⟩]) :
    RetB ⟨env, rows, ctr, 0⟩ [] (fun r ic news => ic = [] ∧ Q r news) (.ptr τ ver 0) := by
  refine retP1 (L := [τ]) (by simp) ?_ ?_ hq
  · simp [insOf, hr, protL_ren (boxCells_prot bs p)]
  · simp [AV.ren, hr, List.idxOf, List.findIdx_cons]
/-- Two new rows of numbers. -/
theorem retLL {env : List AV} {rows : List Row} {ctr τ1 τ2 v1 v2 n1 n2 : Nat} {t : TypeId} {xs ys : List Int} {Q : AV → List Row → Prop} (hne : τ1 ≠ τ2) (h1 : rows[τ1]? = some ⟨v1, t, 1, xs.map (.int .i64)⟩) (h2 : rows[τ2]? = some ⟨v2, t, 1, ys.map (.int .i64)⟩)
    (e1 : n1 = xs.length) (e2 : n2 = ys.length) (hq : Q (.tup [.ref 0 0 0 xs.length, .ref 1 0 0 ys.length]) [⟨0, t, 1, xs.map (.int .i64)⟩, ⟨0, t, 1, ys.map (.int .i64)⟩]) :
    RetB ⟨env, rows, ctr, 0⟩ [] (fun r ic news => ic = [] ∧ Q r news) (.tup [.ref τ1 v1 0 n1, .ref τ2 v2 0 n2]) := by
  subst e1; subst e2
  refine retP1 (L := [τ1, τ2]) (by simpa using hne) ?_ ?_ hq
  · simp [insOf, h1, h2, protL_ren (protL_ints .i64 xs), protL_ren (protL_ints .i64 ys)]
  · have : (τ1 == τ2) = false := by simpa using hne
    simp [AV.ren, renL, h1, h2, List.idxOf, List.findIdx_cons, this]
/-- Two new rows of numbers, and a number. -/
theorem retLLI {env : List AV} {rows : List Row} {ctr τ1 τ2 v1 v2 n1 n2 : Nat} {t : TypeId} {xs ys : List Int} {z : Int} {Q : AV → List Row → Prop} (hne : τ1 ≠ τ2) (h1 : rows[τ1]? = some ⟨v1, t, 1, xs.map (.int .i64)⟩) (h2 : rows[τ2]? = some ⟨v2, t, 1, ys.map (.int .i64)⟩)
    (e1 : n1 = xs.length) (e2 : n2 = ys.length) (hq : Q (.tup [.ref 0 0 0 xs.length, .ref 1 0 0 ys.length, .int .i64 z]) [⟨0, t, 1, xs.map (.int .i64)⟩, ⟨0, t, 1, ys.map (.int .i64)⟩]) :
    RetB ⟨env, rows, ctr, 0⟩ [] (fun r ic news => ic = [] ∧ Q r news) (.tup [.ref τ1 v1 0 n1, .ref τ2 v2 0 n2, .int .i64 z]) := by
  subst e1; subst e2
  refine retP1 (L := [τ1, τ2]) (by simpa using hne) ?_ ?_ hq
  · simp [insOf, h1, h2, protL_ren (protL_ints .i64 xs), protL_ren (protL_ints .i64 ys)]
  · have : (τ1 == τ2) = false := by simpa using hne
    simp [AV.ren, renL, h1, h2, List.idxOf, List.findIdx_cons, this]

/-! Numbers of the draws. -/
theorem xor_range {x y : Int} (hx : 0 ≤ x ∧ x < 4611686018427387904) (hy : 0 ≤ y ∧ y < 4611686018427387904) : 0 ≤ xorI .i64 x y := by
  have hb : IntKind.i64.bits = 64 := rfl
  obtain ⟨a, rfl⟩ : ∃ a : Nat, x = a := ⟨x.toNat, by omega⟩
  obtain ⟨b, rfl⟩ : ∃ b : Nat, y = b := ⟨y.toNat, by omega⟩
  have ha : a < 2 ^ 62 := by have := hx.2; omega
  have hbb : b < 2 ^ 62 := by have := hy.2; omega
  have e : (BitVec.ofInt 64 (a : Int) ^^^ BitVec.ofInt 64 (b : Int)).toNat = a ^^^ b := by
    rw [BitVec.toNat_xor, BitVec.ofInt_natCast, BitVec.ofInt_natCast, BitVec.toNat_ofNat, BitVec.toNat_ofNat, Nat.mod_eq_of_lt (by omega), Nat.mod_eq_of_lt (by omega)]
  have hlt : a ^^^ b < 2 ^ 62 := Nat.xor_lt_two_pow ha hbb
  show 0 ≤ IntKind.i64.wrap (((BitVec.ofInt 64 (a : Int) ^^^ BitVec.ofInt 64 (b : Int)).toNat : Nat) : Int)
  rw [e, IntWalk.i64_in _ (by omega)]
  omega
theorem rem_range {x n : Int} (hx : 0 ≤ x) (hn : 0 < n) : 0 ≤ x.tmod n ∧ x.tmod n < n := ⟨Int.tmod_nonneg n hx, Int.tmod_lt_of_pos x hn⟩
theorem quo_range {x n : Int} (hx : 0 ≤ x) (hn : 0 ≤ n) : 0 ≤ x.tdiv n ∧ x.tdiv n ≤ x := ⟨Int.tdiv_nonneg hx hn, by
  obtain ⟨a, rfl⟩ : ∃ a : Nat, x = a := ⟨x.toNat, by omega⟩
  obtain ⟨b, rfl⟩ : ∃ b : Nat, n = b := ⟨n.toNat, by omega⟩
  rw [← Int.ofNat_tdiv]
  have := Nat.div_le_self a b
  omega⟩
theorem bytes_get {bs : List Int} (h : bytesOk bs) (k : Nat) : 0 ≤ bs.getD k 0 ∧ bs.getD k 0 ≤ 255 := by
  by_cases hk : k < bs.length
  · have e : bs.getD k 0 = bs[k] := by simp [List.getD, List.getElem?_eq_getElem hk]
    rw [e]; exact h _ (List.getElem_mem hk)
  · have e : bs.getD k 0 = 0 := by simp [List.getD, List.getElem?_eq_none (Nat.le_of_not_lt hk)]
    rw [e]; omega
theorem mix_range {a b k q : Int} (ha : 0 ≤ a ∧ a ≤ 255) (hb : 0 ≤ b ∧ b ≤ 255) (hk : 0 ≤ k ∧ k ≤ 1000000000) (hq : 0 ≤ q ∧ q ≤ 1000000000) :
    0 ≤ IntKind.i64.wrap (IntKind.i64.wrap (IntKind.i64.wrap (IntKind.i64.wrap (IntKind.i64.wrap a * 131) + IntKind.i64.wrap (IntKind.i64.wrap b * 1117)) + IntKind.i64.wrap (k * 29)) + IntKind.i64.wrap (IntKind.i64.wrap q * 53)) ∧
    IntKind.i64.wrap (IntKind.i64.wrap (IntKind.i64.wrap (IntKind.i64.wrap (IntKind.i64.wrap a * 131) + IntKind.i64.wrap (IntKind.i64.wrap b * 1117)) + IntKind.i64.wrap (k * 29)) + IntKind.i64.wrap (IntKind.i64.wrap q * 53)) < 4611686018427387904 := by
  rw [IntWalk.i64_in a (by omega), IntWalk.i64_in b (by omega), IntWalk.i64_in q (by omega), IntWalk.i64_in (a * 131) (by omega), IntWalk.i64_in (b * 1117) (by omega), IntWalk.i64_in (k * 29) (by omega), IntWalk.i64_in (q * 53) (by omega),
    IntWalk.i64_in (a * 131 + b * 1117) (by omega), IntWalk.i64_in (a * 131 + b * 1117 + k * 29) (by omega), IntWalk.i64_in (a * 131 + b * 1117 + k * 29 + q * 53) (by omega)]
  omega
theorem mixed_range {x : Int} (h : 0 ≤ x ∧ x < 4611686018427387904) : 0 ≤ xorI .i64 x (IntKind.i64.wrap (x.tdiv 64)) := by
  have := quo_range (n := 64) h.1 (by omega)
  refine xor_range h ?_
  rw [IntWalk.i64_in _ (by omega)]
  omega
theorem bytes_take {bs : List Int} (h : bytesOk bs) (n : Nat) : bytesOk (bs.take n) := fun z hz => h z (List.mem_of_mem_take hz)

/-- Bytes as an argument of a law. -/
theorem argBytes {P : Program} {t e : TypeId} {av : AV} (hu : P.underlying t = some (.slice e)) (he : P.underlying e = some (.int .u8)) (h : ArgOk P t av) : ∃ bs : List Int, av = .sl 1 bs.length (bs.map (.int .u8)) ∧ bytesOk bs := by
  cases h with
  | int n ht hn => rw [hu] at ht; cases ht
  | ints e' k zs ht he' hz =>
    rw [hu] at ht; cases ht
    rw [he] at he'; cases he'
    refine ⟨zs, rfl, fun z h => ?_⟩
    have := hz z h
    simp only [Lit.wf, Bool.and_eq_true, decide_eq_true_iff] at this
    have h1 : IntKind.u8.min = 0 := rfl
    have h2 : IntKind.u8.max = 255 := rfl
    omega

end Go.Am
