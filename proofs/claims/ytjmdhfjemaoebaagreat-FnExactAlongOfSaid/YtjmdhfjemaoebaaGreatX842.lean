import Derived.Test.YtjmdhfjemaoebaaGreatM1x2
namespace Go.Proofs.YtjmdhfjemaoebaaGreat
set_option maxRecDepth 20000
open Go.RowKit Go.Am
set_option linter.unusedSimpArgs false
def selfChk (xs : List Int) : Bool := jOk xs xs && (jL xs xs == xs) && (List.range (cntTo xs xs.length).toNat).all fun k => rdAt xs (sst xs xs) 0 k == (k : Int)
theorem selfChk_2 : shapes2.all selfChk = true := by kernel_rfl
theorem selfChk_31 : (shapes3 1).all selfChk = true := by kernel_rfl
theorem selfChk_32 : (shapes3 2).all selfChk = true := by kernel_rfl
theorem selfChk_33 : (shapes3 3).all selfChk = true := by kernel_rfl
theorem selfChk_34 : (shapes3 4).all selfChk = true := by kernel_rfl
theorem self_facts {xs zs : List Int} (h : shapeOk xs = true) (hl : (zs.length : Int) = cntTo xs xs.length) : jOk xs xs = true ∧ jL xs xs = xs ∧ sprd xs zs xs = zs := by
  have hc := shape_all selfChk_2 selfChk_31 selfChk_32 selfChk_33 selfChk_34 h
  unfold selfChk at hc
  simp only [Bool.and_eq_true, beq_iff_eq, List.all_eq_true] at hc
  obtain ⟨⟨h1, h2⟩, h3⟩ := hc
  refine ⟨h1, h2, getD_ext (by rw [rdL_length]; omega) fun j hj => ?_⟩
  have hj' : j < (cntTo xs xs.length).toNat := by omega
  rw [rdL_getD hj', h3 j (List.mem_range.2 hj'), Int.toNat_natCast]
theorem ltM_self {xs zs qs : List Int} (h : shapeOk xs = true) (hl : (zs.length : Int) = cntTo xs xs.length) (hl' : (qs.length : Int) = cntTo xs xs.length) : ltM 0 xs zs xs qs = (xs, twoL 0 zs qs, true) := by
  obtain ⟨h1, h2, h3⟩ := self_facts h hl
  have h4 := (self_facts h hl').2.2
  rw [ltM_t h1, h2, h3, h4]
def postL (t : TypeId) (sh V : List Int) (x : Nd) (r : AV) (ic : List (List AV)) (news : List Row) : Prop :=
  ic = [sh.map (.int .i64)] ∧ ((x.op = 0 ∧ r = .agg [slI 1 sh, slI 1 V] ∧ news = []) ∨ ((x.op = 9 ∨ x.op = 11) ∧ r = .agg [.ref 0 0 0 sh.length, .ref 1 0 0 V.length] ∧ news = [rowL t V]) ∨ (¬ (x.op = 0 ∨ x.op = 9 ∨ x.op = 11) ∧ r = .agg [.ref 1 0 0 sh.length, .ref 2 0 0 V.length] ∧ news = [rowL t sh, rowL t V]))
theorem retL0 {env : List AV} {ctr : Nat} {t : TypeId} {sh V us ws : List Int} {v0 n m : Nat} {x : Nd} {rest : List Row} (ho : x.op = 0) (ha : us = sh) (hb : ws = V) (hn : n = us.length) (hm : m = ws.length) :
    RetB ⟨env, ⟨v0, t, 1, sh.map (.int .i64)⟩ :: rest, ctr, 1⟩ [⟨0, t, 1, sh.map (.int .i64)⟩] (postL t sh V x) (.agg [.sl 1 n (us.map (.int .i64)), .sl 1 m (ws.map (.int .i64))]) := by
  subst ha; subst hb; subst hn; subst hm
  refine RetB1.ret ⟨[], [⟨0, t, 1, us.map (.int .i64)⟩], .agg [slI 1 us, slI 1 ws], [us.map (.int .i64)], [], (show ([0] : List Nat).Nodup by simp), ?_, ?_, rfl, rfl, rfl, .inl ⟨ho, rfl, rfl⟩⟩
  · show insOf _ [0] [0] = _
    simp [insOf, protL_ren (protL_ints .i64 us)]
  · show AV.ren _ [0] _ = _
    simp [AV.ren, renL, protL_ints, slI]
theorem retL9 {env : List AV} {ctr : Nat} {t : TypeId} {sh V ws : List Int} {v0 n m τ v : Nat} {x : Nd} {rest : List Row} (ho : x.op = 9 ∨ x.op = 11) (h3 : rest[τ]? = some ⟨v, t, 1, ws.map (.int .i64)⟩) (hL : V = ws) (hn : n = sh.length) (hm : m = ws.length) :
    RetB ⟨env, ⟨v0, t, 1, sh.map (.int .i64)⟩ :: rest, ctr, 1⟩ [⟨0, t, 1, sh.map (.int .i64)⟩] (postL t sh V x) (.agg [.ref 0 v0 0 n, .ref (τ + 1) v 0 m]) := by
  subst hn; subst hm; subst hL
  refine RetB1.ret ⟨[τ + 1], [⟨0, t, 1, sh.map (.int .i64)⟩, rowL t V], .agg [.ref 0 0 0 sh.length, .ref 1 0 0 V.length], [sh.map (.int .i64)], [rowL t V], (show ([0, τ + 1] : List Nat).Nodup by simp), ?_, ?_, rfl, rfl, rfl, .inr (.inl ⟨ho, rfl, rfl⟩)⟩
  · show insOf _ [0, τ + 1] [0, τ + 1] = _
    simp [insOf, h3, protL_ren (protL_ints .i64 sh), protL_ren (protL_ints .i64 V)]
  · show AV.ren _ [0, τ + 1] _ = _
    simp [AV.ren, renL, h3, List.idxOf, List.findIdx_cons]
theorem retL4 {env : List AV} {ctr : Nat} {t : TypeId} {sh V ps qs : List Int} {v0 n3 n4 τ3 τ4 v3 v4 : Nat} {x : Nd} {rest : List Row} (ho : ¬ (x.op = 0 ∨ x.op = 9 ∨ x.op = 11)) (hp : ps = sh) (hV : qs = V) (hne : τ3 ≠ τ4) (h3 : rest[τ3]? = some ⟨v3, t, 1, ps.map (.int .i64)⟩) (h4 : rest[τ4]? = some ⟨v4, t, 1, qs.map (.int .i64)⟩) (e3 : n3 = ps.length) (e4 : n4 = qs.length) :
    RetB ⟨env, ⟨v0, t, 1, sh.map (.int .i64)⟩ :: rest, ctr, 1⟩ [⟨0, t, 1, sh.map (.int .i64)⟩] (postL t sh V x) (.agg [.ref (τ3 + 1) v3 0 n3, .ref (τ4 + 1) v4 0 n4]) := by
  have hb : (τ3 == τ4) = false := by simpa using hne
  subst e3; subst e4; subst hp; subst hV
  refine RetB1.ret ⟨[τ3 + 1, τ4 + 1], [⟨0, t, 1, ps.map (.int .i64)⟩, rowL t ps, rowL t qs], .agg [.ref 1 0 0 ps.length, .ref 2 0 0 qs.length], [ps.map (.int .i64)], [rowL t ps, rowL t qs], (show ([0, τ3 + 1, τ4 + 1] : List Nat).Nodup by simpa using hne), ?_, ?_, rfl, rfl, rfl, .inr (.inr ⟨ho, rfl, rfl⟩)⟩
  · show insOf _ [0, τ3 + 1, τ4 + 1] [0, τ3 + 1, τ4 + 1] = _
    simp [insOf, h3, h4, protL_ren (protL_ints .i64 ps), protL_ren (protL_ints .i64 qs)]
  · show AV.ren _ [0, τ3 + 1, τ4 + 1] _ = _
    simp [AV.ren, renL, h3, h4, List.idxOf, List.findIdx_cons, hb]
structure SmF (x : Nd) (sh : List Int) (us vs : List T2) (M : M7) : Prop where
  ia : 0 ≤ x.a ∧ x.a < M.length
  ib : 0 ≤ x.b ∧ x.b < M.length
  va : x.a < vs.length
  vb : x.b < vs.length
  ta : tensorOk (M.getD x.a.toNat (0, [], [])).2.1 (M.getD x.a.toNat (0, [], [])).2.2 = true
  tb : tensorOk (M.getD x.b.toNat (0, [], [])).2.1 (M.getD x.b.toNat (0, [], [])).2.2 = true
  wa : tensorOk (vs.getD x.a.toNat ([], [])).1 (vs.getD x.a.toNat ([], [])).2 = true
  wb : tensorOk (vs.getD x.b.toNat ([], [])).1 (vs.getD x.b.toNat ([], [])).2 = true
  ss : shapeOk sh = true
theorem sm_facts {x : Nd} {sh : List Int} {us vs : List T2} {M : M7} (h : SlP x sh us vs (M.map Prod.snd)) (o : x.op = 4 ∨ x.op = 12) : SmF x sh us vs M := by
  have F := l_facts h.l
  obtain ⟨ga, ta⟩ := F.ia (by omega)
  obtain ⟨gb, tb⟩ := F.ib (by omega)
  have hn := h.n
  rw [m7_getD] at ta tb
  rw [List.length_map] at ga gb hn
  have G := sl_facts h o
  refine ⟨ga, gb, by omega, by omega, ta, tb, h.v _ (by omega), h.v _ (by omega), ?_⟩
  rcases o with o | o
  · have E := G.p1.2 (by omega)
    exact (sp_facts E.j1 E.j2).1
  · obtain ⟨p1, p2, p3, p4, p5⟩ := F.prod o
    have hk : sh = [((M.map Prod.snd).getD x.a.toNat ([], [])).1.getD (Int.toNat 0) 0, ((M.map Prod.snd).getD x.b.toNat ([], [])).1.getD (Int.toNat 1) 0] := by
      rw [h.shape, ← shA_of, ← shB_of]; simp [kL, o]
    obtain ⟨r, m, c, P⟩ := prF (F.prod o)
    have e0 : ((M.map Prod.snd).getD x.a.toNat ([], [])).1.getD (Int.toNat 0) 0 = (r : Int) := P.e0
    have e3 : ((M.map Prod.snd).getD x.b.toNat ([], [])).1.getD (Int.toNat 1) 0 = (c : Int) := P.e3
    rw [hk, e0, e3]
    refine (shapeOk_iff _).2 ⟨by simp, fun j hj => ?_⟩
    have hr := P.r4
    have hc := P.c4
    have : j = 0 ∨ j = 1 := by simp at hj; omega
    rcases this with rfl | rfl
    · show (decide (1 ≤ (r : Int)) && decide ((r : Int) ≤ 4)) = true; rw [decide_eq_true (by omega), decide_eq_true (by omega)]; rfl
    · show (decide (1 ≤ (c : Int)) && decide ((c : Int) ≤ 4)) = true; rw [decide_eq_true (by omega), decide_eq_true (by omega)]; rfl
end Go.Proofs.YtjmdhfjemaoebaaGreat
