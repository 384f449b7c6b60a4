import Derived.Test.YtjmdhfjemaoebaaGreatX842
import Derived.Test.YtjmdhfjemaoebaaGreatX83
namespace Go.Proofs.YtjmdhfjemaoebaaGreat
set_option maxRecDepth 20000
open Go.RowKit Go.Am
set_option linter.unusedSimpArgs false
structure S4F (x : Nd) (sh V : List Int) (vs : List T2) (M : M7) : Prop where
  l : LtP (ltM 2 (M.getD x.a.toNat (0, [], [])).2.1 (M.getD x.a.toNat (0, [], [])).2.2 (vs.getD x.b.toNat ([], [])).1 (vs.getD x.b.toNat ([], [])).2).1 (ltM 2 (M.getD x.a.toNat (0, [], [])).2.1 (M.getD x.a.toNat (0, [], [])).2.2 (vs.getD x.b.toNat ([], [])).1 (vs.getD x.b.toNat ([], [])).2).2.1 (ltM 2 (vs.getD x.a.toNat ([], [])).1 (vs.getD x.a.toNat ([], [])).2 (M.getD x.b.toNat (0, [], [])).2.1 (M.getD x.b.toNat (0, [], [])).2.2).1 (ltM 2 (vs.getD x.a.toNat ([], [])).1 (vs.getD x.a.toNat ([], [])).2 (M.getD x.b.toNat (0, [], [])).2.1 (M.getD x.b.toNat (0, [], [])).2.2).2.1
  z : ltM 0 (ltM 2 (M.getD x.a.toNat (0, [], [])).2.1 (M.getD x.a.toNat (0, [], [])).2.2 (vs.getD x.b.toNat ([], [])).1 (vs.getD x.b.toNat ([], [])).2).1 (ltM 2 (M.getD x.a.toNat (0, [], [])).2.1 (M.getD x.a.toNat (0, [], [])).2.2 (vs.getD x.b.toNat ([], [])).1 (vs.getD x.b.toNat ([], [])).2).2.1 (ltM 2 (vs.getD x.a.toNat ([], [])).1 (vs.getD x.a.toNat ([], [])).2 (M.getD x.b.toNat (0, [], [])).2.1 (M.getD x.b.toNat (0, [], [])).2.2).1 (ltM 2 (vs.getD x.a.toNat ([], [])).1 (vs.getD x.a.toNat ([], [])).2 (M.getD x.b.toNat (0, [], [])).2.1 (M.getD x.b.toNat (0, [], [])).2.2).2.1 = (sh, V, true)
theorem s4_facts {x : Nd} {sh : List Int} {us vs : List T2} {M : M7} (h : SlP x sh us vs (M.map Prod.snd)) (o : x.op = 4) : S4F x sh (slS x sh us vs (M.map Prod.snd)) vs M := by
  have F := l_facts h.l
  have G := sm_facts h (.inl o)
  have ea := h.fst (j := x.a.toNat) (by have := G.ia; rw [List.length_map]; omega)
  have eb := h.fst (j := x.b.toNat) (by have := G.ib; rw [List.length_map]; omega)
  have hj := F.two (by omega)
  have hk : sh = jL ((M.map Prod.snd).getD x.a.toNat ([], [])).1 ((M.map Prod.snd).getD x.b.toNat ([], [])).1 := by
    rw [h.shape, ← shA_of, ← shB_of]; simp [kL, o]
  rw [m7_getD] at ea eb
  rw [m7_getD, m7_getD] at hj hk
  have hc := cnt64 G.ss (Nat.le_refl _)
  have hA : ltM 2 (M.getD x.a.toNat (0, [], [])).2.1 (M.getD x.a.toNat (0, [], [])).2.2 (vs.getD x.b.toNat ([], [])).1 (vs.getD x.b.toNat ([], [])).2 = (sh, twoL 2 (sprd (M.getD x.a.toNat (0, [], [])).2.1 (M.getD x.a.toNat (0, [], [])).2.2 sh) (sprd (vs.getD x.b.toNat ([], [])).1 (vs.getD x.b.toNat ([], [])).2 sh), true) := by
    have e : (vs.getD x.b.toNat t0).1 = (M.getD x.b.toNat (0, [], [])).2.1 := eb.symm
    rw [ltM_t (by rw [show (vs.getD x.b.toNat ([], [])).1 = (M.getD x.b.toNat (0, [], [])).2.1 from e]; exact hj), hk, ← show (vs.getD x.b.toNat ([], [])).1 = (M.getD x.b.toNat (0, [], [])).2.1 from e]
  have hB : ltM 2 (vs.getD x.a.toNat ([], [])).1 (vs.getD x.a.toNat ([], [])).2 (M.getD x.b.toNat (0, [], [])).2.1 (M.getD x.b.toNat (0, [], [])).2.2 = (sh, twoL 2 (sprd (vs.getD x.a.toNat ([], [])).1 (vs.getD x.a.toNat ([], [])).2 sh) (sprd (M.getD x.b.toNat (0, [], [])).2.1 (M.getD x.b.toNat (0, [], [])).2.2 sh), true) := by
    have e : (vs.getD x.a.toNat t0).1 = (M.getD x.a.toNat (0, [], [])).2.1 := ea.symm
    rw [ltM_t (by rw [show (vs.getD x.a.toNat ([], [])).1 = (M.getD x.a.toNat (0, [], [])).2.1 from e]; exact hj), hk, ← show (vs.getD x.a.toNat ([], [])).1 = (M.getD x.a.toNat (0, [], [])).2.1 from e]
  have l1 : ∀ (a b c d : List Int), ((twoL 2 (sprd a b sh) (sprd c d sh)).length : Int) = cntTo sh sh.length := fun a b c d => by rw [twoL_length, rdL_length]; omega
  refine ⟨by rw [hA, hB]; exact ⟨G.ss, G.ss, l1 _ _ _ _, l1 _ _ _ _⟩, ?_⟩
  rw [hA, hB]
  show ltM 0 sh _ sh _ = _
  rw [ltM_self G.ss (l1 _ _ _ _) (l1 _ _ _ _), slS_4 o, m7_getD, m7_getD]
structure S12F (x : Nd) (sh V : List Int) (vs : List T2) (M : M7) : Prop where
  p1 : prP (M.getD x.a.toNat (0, [], [])).2.1 (M.getD x.a.toNat (0, [], [])).2.2 (vs.getD x.b.toNat ([], [])).1 (vs.getD x.b.toNat ([], [])).2
  p2 : prP (vs.getD x.a.toNat ([], [])).1 (vs.getD x.a.toNat ([], [])).2 (M.getD x.b.toNat (0, [], [])).2.1 (M.getD x.b.toNat (0, [], [])).2.2
  l : LtP [(M.getD x.a.toNat (0, [], [])).2.1.getD 0 0, (vs.getD x.b.toNat ([], [])).1.getD 1 0] (prL (M.getD x.a.toNat (0, [], [])).2.2 (vs.getD x.b.toNat ([], [])).2 ((M.getD x.a.toNat (0, [], [])).2.1.getD 0 0).toNat ((M.getD x.a.toNat (0, [], [])).2.1.getD 1 0).toNat ((vs.getD x.b.toNat ([], [])).1.getD 1 0).toNat) [(vs.getD x.a.toNat ([], [])).1.getD 0 0, (M.getD x.b.toNat (0, [], [])).2.1.getD 1 0] (prL (vs.getD x.a.toNat ([], [])).2 (M.getD x.b.toNat (0, [], [])).2.2 ((vs.getD x.a.toNat ([], [])).1.getD 0 0).toNat ((vs.getD x.a.toNat ([], [])).1.getD 1 0).toNat ((M.getD x.b.toNat (0, [], [])).2.1.getD 1 0).toNat)
  z : ltM 0 [(M.getD x.a.toNat (0, [], [])).2.1.getD 0 0, (vs.getD x.b.toNat ([], [])).1.getD 1 0] (prL (M.getD x.a.toNat (0, [], [])).2.2 (vs.getD x.b.toNat ([], [])).2 ((M.getD x.a.toNat (0, [], [])).2.1.getD 0 0).toNat ((M.getD x.a.toNat (0, [], [])).2.1.getD 1 0).toNat ((vs.getD x.b.toNat ([], [])).1.getD 1 0).toNat) [(vs.getD x.a.toNat ([], [])).1.getD 0 0, (M.getD x.b.toNat (0, [], [])).2.1.getD 1 0] (prL (vs.getD x.a.toNat ([], [])).2 (M.getD x.b.toNat (0, [], [])).2.2 ((vs.getD x.a.toNat ([], [])).1.getD 0 0).toNat ((vs.getD x.a.toNat ([], [])).1.getD 1 0).toNat ((M.getD x.b.toNat (0, [], [])).2.1.getD 1 0).toNat) = (sh, V, true)
theorem s12_facts {x : Nd} {sh : List Int} {us vs : List T2} {M : M7} (h : SlP x sh us vs (M.map Prod.snd)) (o : x.op = 12) : S12F x sh (slS x sh us vs (M.map Prod.snd)) vs M := by
  have F := l_facts h.l
  have G := sm_facts h (.inr o)
  have ea := h.fst (j := x.a.toNat) (by have := G.ia; rw [List.length_map]; omega)
  have eb := h.fst (j := x.b.toNat) (by have := G.ib; rw [List.length_map]; omega)
  obtain ⟨p1, p2, p3, p4, p5⟩ := F.prod o
  have hk : sh = [((M.map Prod.snd).getD x.a.toNat ([], [])).1.getD (Int.toNat 0) 0, ((M.map Prod.snd).getD x.b.toNat ([], [])).1.getD (Int.toNat 1) 0] := by
    rw [h.shape, ← shA_of, ← shB_of]; simp [kL, o]
  rw [m7_getD] at ea eb p1 p2 p3 p4
  rw [m7_getD, m7_getD] at hk p5
  have ea : (M.getD x.a.toNat (0, [], [])).2.1 = (vs.getD x.a.toNat ([], [])).1 := ea
  have eb : (M.getD x.b.toNat (0, [], [])).2.1 = (vs.getD x.b.toNat ([], [])).1 := eb
  have P1 : prP (M.getD x.a.toNat (0, [], [])).2.1 (M.getD x.a.toNat (0, [], [])).2.2 (vs.getD x.b.toNat ([], [])).1 (vs.getD x.b.toNat ([], [])).2 := ⟨p1, G.wb, p3, by rw [← eb]; exact p4, by rw [← eb]; exact p5⟩
  have P2 : prP (vs.getD x.a.toNat ([], [])).1 (vs.getD x.a.toNat ([], [])).2 (M.getD x.b.toNat (0, [], [])).2.1 (M.getD x.b.toNat (0, [], [])).2.2 := ⟨G.wa, p2, by rw [← ea]; exact p3, p4, by rw [← ea]; exact p5⟩
  have h1 : [(M.getD x.a.toNat (0, [], [])).2.1.getD 0 0, (vs.getD x.b.toNat ([], [])).1.getD 1 0] = sh := by rw [hk, ← eb]; rfl
  have h2 : [(vs.getD x.a.toNat ([], [])).1.getD 0 0, (M.getD x.b.toNat (0, [], [])).2.1.getD 1 0] = sh := by rw [hk, ← ea]; rfl
  have lq : ∀ {xs zs ps qs : List Int}, prP xs zs ps qs → [xs.getD 0 0, ps.getD 1 0] = sh → ∀ us ws : List Int, ((prL us ws (xs.getD 0 0).toNat (xs.getD 1 0).toNat (ps.getD 1 0).toNat).length : Int) = cntTo sh sh.length := fun {xs zs ps qs} P e us ws => by
    obtain ⟨r, m, c, Q⟩ := prF P
    have e2 := cnt2 G.ss (by rw [← e]; rfl)
    rw [← e] at e2
    have e2 : cntTo [xs.getD 0 0, ps.getD 1 0] [xs.getD 0 0, ps.getD 1 0].length = xs.getD 0 0 * ps.getD 1 0 := e2
    rw [prL_length, ← e, e2, Q.e0, Q.e3, Int.toNat_natCast, Int.toNat_natCast, Int.natCast_mul]
  have q1 := lq P1 h1 (M.getD x.a.toNat (0, [], [])).2.2 (vs.getD x.b.toNat ([], [])).2
  have q2 := lq P2 h2 (vs.getD x.a.toNat ([], [])).2 (M.getD x.b.toNat (0, [], [])).2.2
  refine ⟨P1, P2, by rw [h1, h2]; exact ⟨G.ss, G.ss, q1, q2⟩, ?_⟩
  rw [h1, h2, ltM_self G.ss q1 q2, slS_12 o, m7_getD, m7_getD, ea, eb]
attribute [local irreducible] aPlan aGet aIf aLoop aCall RetB NextB CallB CallG aCut aSet aAppend
def sL7S : CSpec :=
  { ι := Nat × Nd × List Int × Nat × List T2 × Nat × M7 × List T2, inout := [false, true, false, false, false],
    args := fun | (b, x, sh, e, vs, g, M, us) => [.agg [.int .i64 x.op, .int .i64 x.a, .int .i64 x.b, .sl b x.l.length (x.l.map (.int .i64))], .ref 0 0 0 sh.length, .sl e vs.length (vs.flatMap (tnC e)), .sl g M.length (M.flatMap m7C), .sl 1 us.length (us.flatMap (tnC 1))],
    ins := fun | (_, _, sh, _, _, _, _, _) => [⟨0, 3, 1, sh.map (.int .i64)⟩],
    pre := fun | (_, x, sh, _, vs, _, M, us) => SlP x sh us vs (M.map Prod.snd),
    post := fun | (_, x, sh, _, vs, _, M, us), r, ic, news => postL 3 sh (slS x sh us vs (M.map Prod.snd)) x r ic news }
set_option maxHeartbeats 16000000 in
theorem l7Slope_sound : Sound Tryz.prog 54 sL7S := by
  refine sound_of Tryz.func54 rfl (enters_of Tryz.func54 (by kernel_rfl) (by kernel_rfl)) ?_
  rintro ⟨b, x, sh, e, vs, g, M, us⟩ hpre
  have hp : SlP x sh us vs (M.map Prod.snd) := hpre
  have hl := hp.l
  have F := l_facts hl
  have hmax : maxLen = 9223372036854775807 := rfl
  by_cases o0 : x.op = 0
  · obtain ⟨hi, ht, hsh⟩ := F.i0 o0
    have hV : (us.getD x.a.toNat ([], [])).2 = slS x sh us vs (M.map Prod.snd) := by
      rw [slS_o (by omega) (by omega) (by omega)]; unfold vS; rw [if_pos o0]
    conv => whnf
    dsimp only
    repeat' (first
      | ((first | refine tree_in (id := 6) (.one 0 (.one 1 (.one 2 (.one 3 (.one 4 (.one 5 (.one 6 (.one 7 (.one 8 (.one 9 (.two 10 14 (.one 11 (.one 12 (.one 13 (.one 14 (.one 15 (.one 16 .nil)))))) (.one 10 (.one 11 (.one 12 (.one 13 (.one 15 (.one 16 .nil))))))))))))))))) (by kernel_rfl) (by kernel_rfl) ?_ | refine tree_in (id := 7) (.one 0 (.one 1 (.one 2 (.one 3 (.one 4 (.one 5 (.one 6 (.one 7 (.one 8 (.one 9 (.two 10 14 (.one 11 (.one 12 (.one 13 (.one 14 (.one 15 (.one 16 .nil)))))) (.one 10 (.one 11 (.one 12 (.one 13 (.one 15 (.one 16 .nil))))))))))))))))) (by kernel_rfl) (by kernel_rfl) ?_ | refine tree_in (id := 11) (.one 0 (.one 1 (.one 2 (.one 3 (.one 4 (.one 5 (.one 6 (.one 7 (.one 8 (.one 9 (.two 10 11 (.one 11 (.one 12 .nil)) (.one 10 (.one 12 .nil))))))))))))) (by kernel_rfl) (by kernel_rfl) ?_ | refine tree_in (id := 12) (.one 0 (.one 1 (.one 2 (.one 3 (.one 4 (.one 5 (.one 6 (.one 7 (.one 8 (.one 9 (.two 10 11 (.one 11 (.one 12 .nil)) (.one 10 (.one 12 .nil))))))))))))) (by kernel_rfl) (by kernel_rfl) ?_); conv => whnf) | (refine fork_in ?_ ?_ <;> conv => whnf) | ((first | refine aGet_in rfl ?_ | refine And.intro (by omega) ?_ | refine load_same ?_ | refine And.intro rfl (And.intro (List.cons_ne_nil _ _) ?_) | refine And.intro (Nat.le_of_ble_eq_true rfl) ?_); conv => whnf) | (refine l3Value_callM (by assumption) rfl rfl rfl (fun _ => ?_) (fun _ => ?_) <;> conv => whnf) | ((first | refine callG_t ?_ | refine append_same ?_ | refine part_tn_n (by omega) ?_ | refine part_tn (by omega) ?_ | refine part_m7 (by omega) ?_ | refine takeN_in ?_ | refine cut_ints ?_ | refine set_force ?_ | refine And.intro (by kernel_rfl) ?_); conv => whnf) | (refine aIf_dec (fun _ => ?_) (fun _ => ?_) <;> conv => whnf))
    all_goals (first | (exfalso; omega) | skip)
    all_goals exact retL0 o0 hsh.symm hV rfl rfl
  · by_cases o1 : x.op = 1
    · have hs : shapeOk sh = true := by rw [(F.i1 o1).2]; rfl
      have hV : zsOf sh = slS x sh us vs (M.map Prod.snd) := (slS_1 o1).symm
      conv => whnf
      dsimp only
      repeat' (first
        | ((first | refine tree_in (id := 6) (.one 0 (.one 1 (.one 2 (.one 3 (.one 4 (.one 5 (.one 6 (.one 7 (.one 8 (.one 9 (.two 10 14 (.one 11 (.one 12 (.one 13 (.one 14 (.one 15 (.one 16 .nil)))))) (.one 10 (.one 11 (.one 12 (.one 13 (.one 15 (.one 16 .nil))))))))))))))))) (by kernel_rfl) (by kernel_rfl) ?_ | refine tree_in (id := 7) (.one 0 (.one 1 (.one 2 (.one 3 (.one 4 (.one 5 (.one 6 (.one 7 (.one 8 (.one 9 (.two 10 14 (.one 11 (.one 12 (.one 13 (.one 14 (.one 15 (.one 16 .nil)))))) (.one 10 (.one 11 (.one 12 (.one 13 (.one 15 (.one 16 .nil))))))))))))))))) (by kernel_rfl) (by kernel_rfl) ?_ | refine tree_in (id := 11) (.one 0 (.one 1 (.one 2 (.one 3 (.one 4 (.one 5 (.one 6 (.one 7 (.one 8 (.one 9 (.two 10 11 (.one 11 (.one 12 .nil)) (.one 10 (.one 12 .nil))))))))))))) (by kernel_rfl) (by kernel_rfl) ?_ | refine tree_in (id := 12) (.one 0 (.one 1 (.one 2 (.one 3 (.one 4 (.one 5 (.one 6 (.one 7 (.one 8 (.one 9 (.two 10 11 (.one 11 (.one 12 .nil)) (.one 10 (.one 12 .nil))))))))))))) (by kernel_rfl) (by kernel_rfl) ?_); conv => whnf) | (refine fork_in ?_ ?_ <;> conv => whnf) | ((first | refine aGet_in rfl ?_ | refine And.intro (by omega) ?_ | refine load_same ?_ | refine And.intro rfl (And.intro (List.cons_ne_nil _ _) ?_) | refine And.intro (Nat.le_of_ble_eq_true rfl) ?_); conv => whnf) | (refine l3Value_callM (by assumption) rfl rfl rfl (fun _ => ?_) (fun _ => ?_) <;> conv => whnf) | ((first | refine callG_t ?_ | refine append_same ?_ | refine part_tn_n (by omega) ?_ | refine l7Zero_call (by assumption) ?_ | refine part_m7 (by omega) ?_ | refine takeN_in ?_ | refine cut_ints ?_ | refine set_force ?_ | refine And.intro (by kernel_rfl) ?_); conv => whnf) | (refine aIf_dec (fun _ => ?_) (fun _ => ?_) <;> conv => whnf))
      all_goals (first | (exfalso; omega) | skip)
      all_goals exact retL4 (by omega) rfl hV (by decide) rfl rfl rfl rfl
    · by_cases o4 : x.op = 4
      · obtain ⟨ia, ib, va, vb, ta, tb, wa, wb, hs⟩ := sm_facts hp (.inl o4)
        obtain ⟨hL, hZ⟩ := s4_facts hp o4
        conv => whnf
        dsimp only
        repeat' (first
          | ((first | refine tree_in (id := 6) (.one 0 (.one 1 (.one 2 (.one 3 (.one 4 (.one 5 (.one 6 (.one 7 (.one 8 (.one 9 (.two 10 14 (.one 11 (.one 12 (.one 13 (.one 14 (.one 15 (.one 16 .nil)))))) (.one 10 (.one 11 (.one 12 (.one 13 (.one 15 (.one 16 .nil))))))))))))))))) (by kernel_rfl) (by kernel_rfl) ?_ | refine tree_in (id := 7) (.one 0 (.one 1 (.one 2 (.one 3 (.one 4 (.one 5 (.one 6 (.one 7 (.one 8 (.one 9 (.two 10 14 (.one 11 (.one 12 (.one 13 (.one 14 (.one 15 (.one 16 .nil)))))) (.one 10 (.one 11 (.one 12 (.one 13 (.one 15 (.one 16 .nil))))))))))))))))) (by kernel_rfl) (by kernel_rfl) ?_ | refine tree_in (id := 11) (.one 0 (.one 1 (.one 2 (.one 3 (.one 4 (.one 5 (.one 6 (.one 7 (.one 8 (.one 9 (.two 10 11 (.one 11 (.one 12 .nil)) (.one 10 (.one 12 .nil))))))))))))) (by kernel_rfl) (by kernel_rfl) ?_ | refine tree_in (id := 12) (.one 0 (.one 1 (.one 2 (.one 3 (.one 4 (.one 5 (.one 6 (.one 7 (.one 8 (.one 9 (.two 10 11 (.one 11 (.one 12 .nil)) (.one 10 (.one 12 .nil))))))))))))) (by kernel_rfl) (by kernel_rfl) ?_); conv => whnf) | (refine fork_in ?_ ?_ <;> conv => whnf) | ((first | refine aGet_in rfl ?_ | refine And.intro (by omega) ?_ | refine load_same ?_ | refine And.intro rfl (And.intro (List.cons_ne_nil _ _) ?_) | refine And.intro (Nat.le_of_ble_eq_true rfl) ?_); conv => whnf) | (refine l3Value_callM (by assumption) rfl rfl rfl (fun _ => ?_) (fun _ => ?_) <;> conv => whnf) | ((first | refine callG_t ?_ | refine l2Two_call (And.intro (by assumption) (by assumption)) ?_ | refine append_same ?_ | refine part_tn_n (by omega) ?_ | refine part_tn (by omega) ?_ | refine l7Zero_call (by assumption) ?_ | refine part_m7 (by omega) ?_ | refine l2TwoG_call (by assumption) ?_ | refine takeN_in ?_ | refine And.intro (pureL_ints _ _) ?_ | refine cut_ints ?_ | refine set_force ?_ | refine And.intro (by kernel_rfl) ?_); conv => whnf) | (refine aIf_dec (fun _ => ?_) (fun _ => ?_) <;> conv => whnf))
        all_goals (first | (exfalso; omega) | skip)
        all_goals exact retL4 (by omega) (congrArg (fun y => y.1) hZ) (congrArg (fun y => y.2.1) hZ) (by decide) rfl rfl rfl rfl
      · by_cases o12 : x.op = 12
        · obtain ⟨ia, ib, va, vb, ta, tb, wa, wb, hs⟩ := sm_facts hp (.inr o12)
          obtain ⟨hp1, hp2, hL, hZ⟩ := s12_facts hp o12
          conv => whnf
          dsimp only
          repeat' (first
            | ((first | refine l2TwoG_call (xs := [_, _]) (ps := [_, _]) (by assumption) ?_ | refine tree_in (id := 6) (.one 0 (.one 1 (.one 2 (.one 3 (.one 4 (.one 5 (.one 6 (.one 7 (.one 8 (.one 9 (.two 10 14 (.one 11 (.one 12 (.one 13 (.one 14 (.one 15 (.one 16 .nil)))))) (.one 10 (.one 11 (.one 12 (.one 13 (.one 15 (.one 16 .nil))))))))))))))))) (by kernel_rfl) (by kernel_rfl) ?_ | refine tree_in (id := 7) (.one 0 (.one 1 (.one 2 (.one 3 (.one 4 (.one 5 (.one 6 (.one 7 (.one 8 (.one 9 (.two 10 14 (.one 11 (.one 12 (.one 13 (.one 14 (.one 15 (.one 16 .nil)))))) (.one 10 (.one 11 (.one 12 (.one 13 (.one 15 (.one 16 .nil))))))))))))))))) (by kernel_rfl) (by kernel_rfl) ?_ | refine tree_in (id := 11) (.one 0 (.one 1 (.one 2 (.one 3 (.one 4 (.one 5 (.one 6 (.one 7 (.one 8 (.one 9 (.two 10 11 (.one 11 (.one 12 .nil)) (.one 10 (.one 12 .nil))))))))))))) (by kernel_rfl) (by kernel_rfl) ?_ | refine tree_in (id := 12) (.one 0 (.one 1 (.one 2 (.one 3 (.one 4 (.one 5 (.one 6 (.one 7 (.one 8 (.one 9 (.two 10 11 (.one 11 (.one 12 .nil)) (.one 10 (.one 12 .nil))))))))))))) (by kernel_rfl) (by kernel_rfl) ?_); conv => whnf) | (refine fork_in ?_ ?_ <;> conv => whnf) | ((first | refine aGet_in rfl ?_ | refine And.intro (by omega) ?_ | refine load_same ?_ | refine And.intro rfl (And.intro (List.cons_ne_nil _ _) ?_) | refine And.intro (Nat.le_of_ble_eq_true rfl) ?_); conv => whnf) | (refine l3Value_callM (by assumption) rfl rfl rfl (fun _ => ?_) (fun _ => ?_) <;> conv => whnf) | ((first | refine callG_t ?_ | refine l2Two_call (And.intro (by assumption) (by assumption)) ?_ | refine l2Product_call (by assumption) ?_ | refine append_same ?_ | refine part_tn_n (by omega) ?_ | refine part_tn (by omega) ?_ | refine l7Zero_call (by assumption) ?_ | refine part_m7 (by omega) ?_ | refine takeN_in ?_ | refine And.intro (pureL_ints _ _) ?_ | refine cut_ints ?_ | refine set_force ?_ | refine And.intro (by kernel_rfl) ?_); conv => whnf) | (refine aIf_dec (fun _ => ?_) (fun _ => ?_) <;> conv => whnf))
          all_goals (first | (exfalso; omega) | skip)
          all_goals exact retL4 (by omega) (congrArg (fun y => y.1) hZ) (congrArg (fun y => y.2.1) hZ) (by decide) rfl rfl rfl rfl
        · have hV : (vS x sh us (M.map Prod.snd)).2 = slS x sh us vs (M.map Prod.snd) := (slS_o o1 o4 o12).symm
          have hf := vS_fst hl
          skip
          conv => whnf
          dsimp only
          repeat' (first
            | ((first | refine tree_in (id := 6) (.one 0 (.one 1 (.one 2 (.one 3 (.one 4 (.one 5 (.one 6 (.one 7 (.one 8 (.one 9 (.two 10 14 (.one 11 (.one 12 (.one 13 (.one 14 (.one 15 (.one 16 .nil)))))) (.one 10 (.one 11 (.one 12 (.one 13 (.one 15 (.one 16 .nil))))))))))))))))) (by kernel_rfl) (by kernel_rfl) ?_ | refine tree_in (id := 7) (.one 0 (.one 1 (.one 2 (.one 3 (.one 4 (.one 5 (.one 6 (.one 7 (.one 8 (.one 9 (.two 10 14 (.one 11 (.one 12 (.one 13 (.one 14 (.one 15 (.one 16 .nil)))))) (.one 10 (.one 11 (.one 12 (.one 13 (.one 15 (.one 16 .nil))))))))))))))))) (by kernel_rfl) (by kernel_rfl) ?_ | refine tree_in (id := 11) (.one 0 (.one 1 (.one 2 (.one 3 (.one 4 (.one 5 (.one 6 (.one 7 (.one 8 (.one 9 (.two 10 11 (.one 11 (.one 12 .nil)) (.one 10 (.one 12 .nil))))))))))))) (by kernel_rfl) (by kernel_rfl) ?_ | refine tree_in (id := 12) (.one 0 (.one 1 (.one 2 (.one 3 (.one 4 (.one 5 (.one 6 (.one 7 (.one 8 (.one 9 (.two 10 11 (.one 11 (.one 12 .nil)) (.one 10 (.one 12 .nil))))))))))))) (by kernel_rfl) (by kernel_rfl) ?_); conv => whnf) | (refine fork_in ?_ ?_ <;> conv => whnf) | ((first | refine aGet_in rfl ?_ | refine And.intro (by omega) ?_ | refine load_same ?_ | refine And.intro rfl (And.intro (List.cons_ne_nil _ _) ?_) | refine And.intro (Nat.le_of_ble_eq_true rfl) ?_); conv => whnf) | (refine l3Value_callM (by assumption) rfl rfl rfl (fun _ => ?_) (fun _ => ?_) <;> conv => whnf) | ((first | refine callG_t ?_ | refine append_same ?_ | refine part_tn_n (by omega) ?_ | refine part_m7 (by omega) ?_ | refine takeN_in ?_ | refine cut_ints ?_ | refine set_force ?_ | refine And.intro (by kernel_rfl) ?_); conv => whnf) | (refine aIf_dec (fun _ => ?_) (fun _ => ?_) <;> conv => whnf))
          all_goals (first | (exfalso; omega) | skip)
          all_goals (first | exact retL9 (by have : hbK x := by assumption
                                             unfold hbK at this; omega) rfl hV.symm rfl rfl | exact retL4 (by have : ¬ hbK x := by assumption
                                                                                                              unfold hbK at this; omega) hf hV (by decide) rfl rfl rfl rfl)
end Go.Proofs.YtjmdhfjemaoebaaGreat
