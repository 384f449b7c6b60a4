import Derived.Test.YtmgggbgejdkamaaM01x22
import Derived.Test.YtmgggbgejdkamaaM01x24
/- Chapter 5: all orders, of the model. -/
namespace Go.Proofs.Ytmgggbgejdkamaa
set_option maxRecDepth 20000
open Go.RowKit Go.Am
set_option linter.unusedSimpArgs false
attribute [local irreducible] aPlan aGet aIf aLoop aCall RetB NextB CallB CallG aCut aSet aAppend
def sAll (m : Nat) : CSpec := fnR (ι := IS) 23 1 (fun | (c, zs, d, fs, e, o) => [.agg [.sl c zs.length (zs.map (.int .i64)), .sl d fs.length (fs.map (slI d)), .sl e o.length (o.map (.int .i64))]]) (fun | (_, zs, _, fs, _, o) => okP zs fs o ∧ fs.length = m) (fun | (_, zs, _, fs, _, o) => (ords m (zs, fs, o)).length) (fun | (_, zs, _, fs, _, o) => (ords m (zs, fs, o)).map (own2 3 22))
theorem l5All_callW {m c d e : Nat} {zs o : List Int} {fs : List (List Int)} {L : L3} {env : List AV} {rows : List Row} {ctr low : Nat} {k : AV → St → Prop} (hs : Sound Try.prog 84 (sAll m)) (hpre : okP zs fs o) (hm : fs.length = m) (hL : ords m (zs, fs, o) = L) (h : k (.ref rows.length ctr 0 L.length) ⟨env, rows ++ [⟨ctr, 23, 1, unk3 3 22 L 0⟩], ctr + 1, low⟩) :
    CallB Try.prog 84 ⟨env, rows, ctr, low⟩ [.agg [.sl c zs.length (zs.map (.int .i64)), .sl d fs.length (fs.map (slI d)), .sl e o.length (o.map (.int .i64))]] k := by
  subst hL
  exact callR_in hs (c, zs, d, fs, e, o) ⟨hpre, hm⟩ (protL_o3 _ _ _) h
theorem ord_300 {m n : Nat} {zs o : List Int} {fs : List (List Int)} {a k : Nat} (hm : m ≤ 3) (hf : fs.length = n) (hn : n = m + 1) (hk : a + 1 + k ≤ n) : (ordF m (zs, fs, o) (prO n a ++ prI a k)).length ≤ 300 := by
  have h1 := prO_le (n := n) (by omega) a (by omega)
  have h2 := prI_len a k
  have h3 : (prO n a ++ prI a k).length ≤ 16 := by rw [List.length_append]; omega
  have h4 := ordF_cnt (m := m) (S := (zs, fs, o)) (L := prO n a ++ prI a k) hm (by show fs.length = m + 1; omega) fun p hp => by
    have hp : p ∈ prO n a ++ prI a k := hp
    show isP fs.length p
    rw [hf]
    rcases List.mem_append.1 hp with h | h
    · exact prO_is a (by omega) p h
    · exact prI_is k hk p h
  omega
theorem ords_18 {m : Nat} {S : Sm} (hm : m ≤ 3) (h : S.2.1.length = m) : (ords m S).length ≤ 18 := by
  have := ords_cnt m S (by omega) h
  match m, hm with
  | 0, _ => exact Nat.le_trans this (Nat.le_of_ble_eq_true rfl)
  | 1, _ => exact Nat.le_trans this (Nat.le_of_ble_eq_true rfl)
  | 2, _ => exact Nat.le_trans this (Nat.le_of_ble_eq_true rfl)
  | 3, _ => exact Nat.le_trans this (Nat.le_of_ble_eq_true rfl)
theorem nat_pr {m a : Nat} {S : Sm} {n : Nat} : (ordF m S (prO n a ++ prI a 0)).length = (ordF m S (prO n a)).length := by simp [prI]
theorem len_snoc3 {Q A B : L3} {x : List (List Int)} (h : B = A ++ [x]) : (Q ++ B).length = (Q ++ A).length + 1 := by rw [h]; simp; omega
theorem le_snoc3 {t tt : TypeId} {Q A B : L3} {xs : List (List Int)} {u : AV} {p : Prop} (h : B = A ++ [xs]) : (pureL ((((Q ++ A).map (own2 t tt)) ++ [u]).set (Q ++ A).length (own2 t tt xs)) = true ∧ (Q ++ B).map (own2 t tt) = (((Q ++ A).map (own2 t tt)) ++ [u]).set (Q ++ A).length (own2 t tt xs)) ∨ p := by
  subst h
  refine le_cells ?_ (pureL_o3 _ _ _)
  rw [List.set_append_right _ _ (by simp)]
  simp
set_option maxHeartbeats 4000000 in
theorem l5All_1 : Sound Try.prog 84 (sAll 1) := by
  refine sound_of Try.func84 rfl (enters_of Try.func84 (by kernel_rfl) (by kernel_rfl)) ?_
  rintro ⟨c, zs, d, fs, q, o⟩ hpre
  obtain ⟨hS, hm⟩ : okS (zs, fs, o) ∧ fs.length = 1 := hpre
  have hmax : maxLen = 9223372036854775807 := rfl
  conv => whnf
  repeat' (first
    | (refine fun (_ : _ ≤ maxLen) => ?_; conv => whnf)
    | (refine aGet_in rfl ?_; conv => whnf)
    | (refine And.intro (by omega) ?_; conv => whnf)
    | (refine And.intro rfl (And.intro (List.cons_ne_nil _ _) ?_); conv => whnf)
    | (refine append_same ?_; conv => whnf)
    | (refine And.intro (And.intro (by kernel_rfl) (And.intro rfl (Nat.le_of_ble_eq_true rfl))) ?_; conv => whnf)
    | (refine aIf_dec (fun _ => ?_) (fun _ => ?_) <;> conv => whnf))
  all_goals (first | (exfalso; omega) | contradiction | skip)
  refine ret_close 3 0 2 _ _ 1 22 _ _ rfl rfl rfl (by decide) (Nat.zero_le _) (by decide) (by simp) ?_
  have hne : ords 1 (zs, fs, o) = [[]] := ords_1 (S := (zs, fs, o)) hm
  exact retR rfl (protL_o3 3 22 [[]]) (congrArg List.length hne).symm (congrArg (List.map (own2 3 22)) hne).symm
set_option maxHeartbeats 16000000 in
theorem l5All_2 (ih : Sound Try.prog 84 (sAll 1)) : Sound Try.prog 84 (sAll 2) := by
  refine sound_of Try.func84 rfl (enters_of Try.func84 (by kernel_rfl) (by kernel_rfl)) ?_
  rintro ⟨c, zs, d, fs, q, o⟩ hpre
  obtain ⟨hS, hm⟩ : okS (zs, fs, o) ∧ fs.length = 2 := hpre
  have hmax : maxLen = 9223372036854775807 := rfl
  have hne : ords 2 (zs, fs, o) = ordF 1 (zs, fs, o) (prO 2 2) := (ords_s (m := 1) (S := (zs, fs, o)) (by show fs.length ≠ 1; omega)).trans (by show ordF 1 (zs, fs, o) (prO fs.length fs.length) = _; rw [hm])
  conv => whnf
  repeat' (first
    | (refine fun (_ : _ ≤ maxLen) => ?_; conv => whnf)
    | (refine aGet_in rfl ?_; conv => whnf)
    | (refine And.intro (by omega) ?_; conv => whnf)
    | (refine And.intro rfl (And.intro (List.cons_ne_nil _ _) ?_); conv => whnf)
    | (refine append_same ?_; conv => whnf)
    | (refine And.intro (And.intro (by kernel_rfl) (And.intro rfl (Nat.le_of_ble_eq_true rfl))) ?_; conv => whnf)
    | (refine aIf_dec (fun _ => ?_) (fun _ => ?_) <;> conv => whnf))
  all_goals (first | (exfalso; omega) | contradiction | skip)
  refine loop_to (ι := Nat) (fun a => ⟨[.un, .ptr 0 1 0, .un, .ref 2 3 0 (ordF 1 (zs, fs, o) (prO 2 a)).length, .int .i64 a, .un, .un, .un, .un, .un, .un, .un, .un, .un, .un, .un, .un, .un, .un, .un, .un, .un, .un, .un, .un, .un, .un, .un, .un, .un, .un, .un, .un, .un, .un, .un, .un, .un, .un, .un, .un, .un, .un, .un, .un, .un, .un, .un, .un, .un, .un, .un, .un, .un, .un, .un, .un, .un, .un, .un, .un, .un], [⟨1, 29, 3, [.sl c zs.length (zs.map (.int .i64)), .sl d fs.length (fs.map (slI d)), .sl q o.length (o.map (.int .i64))]⟩, ⟨2, 23, 1, []⟩, ⟨3, 23, 1, (ordF 1 (zs, fs, o) (prO 2 a)).map (own2 3 22)⟩], 9, 0⟩) (fun a => a ≤ 2) (fun a => 2 - a) 0 (Nat.zero_le _) ?_ ?_
  · refine St.le.to ?_
    conv => whnf
    repeat' (first
      | exact trivial
      | exact rfl
      | exact pureL_ints _ _
      | exact Or.inl (And.intro rfl rfl)
      | exact pureL_ii _ _
      | refine Or.inr ?_
      | refine And.intro ?_ ?_
      | exact Nat.le_of_ble_eq_true rfl)
  · intro a ha
    have ha : a ≤ 2 := ha
    by_cases hlta : a < 2
    · have hwa : IntKind.i64.wrap ((a : Int) + 1) = ((a + 1 + 0 : Nat) : Int) := IntWalk.i64_in _ (by omega)
      have hwa2 : IntKind.i64.wrap ((a : Int) + 1) = ((a + 1 : Nat) : Int) := IntWalk.i64_in _ (by omega)
      conv => whnf
      repeat' (first
        | (refine fun (_ : _ ≤ maxLen) => ?_; conv => whnf)
        | (refine aGet_in rfl ?_; conv => whnf)
        | (refine append_same ?_; conv => whnf)
        | (refine aIf_dec (fun _ => ?_) (fun _ => ?_) <;> conv => whnf))
      all_goals (first | (exfalso; omega) | contradiction | skip)
      refine loop_to (ι := Nat) (fun k => ⟨[.un, .ptr 0 1 0, .un, .ref 2 3 0 (ordF 1 (zs, fs, o) (prO 2 a ++ prI a k)).length, .int .i64 a, .int .i64 ((a + 1 + k : Nat) : Int), .un, .un, .un, .un, .un, .un, .un, .un, .un, .un, .un, .un, .un, .un, .un, .un, .un, .un, .un, .un, .un, .un, .un, .un, .un, .un, .un, .un, .un, .un, .un, .un, .un, .un, .un, .un, .un, .un, .un, .un, .un, .un, .un, .un, .un, .un, .un, .un, .un, .un, .un, .un, .un, .un, .un, .un], [⟨1, 29, 3, [.sl c zs.length (zs.map (.int .i64)), .sl d fs.length (fs.map (slI d)), .sl q o.length (o.map (.int .i64))]⟩, ⟨2, 23, 1, []⟩, ⟨3, 23, 1, (ordF 1 (zs, fs, o) (prO 2 a ++ prI a k)).map (own2 3 22)⟩], 9, 0⟩) (fun k => a + 1 + k ≤ 2) (fun k => 2 - k) 0 (by exact (by omega : a + 1 + 0 ≤ 2)) ?_ ?_
      · refine St.le.to ?_
        conv => whnf
        repeat' (first | exact le_cells (by simp [prI]) (pureL_o3 _ _ _) | exact nat_pr | refine And.intro ?_ ?_)
        repeat' (first
          | exact trivial
          | exact rfl
          | exact pureL_ints _ _
          | exact Or.inl (And.intro rfl rfl)
          | exact pureL_ii _ _
          | refine Or.inr ?_
          | refine And.intro ?_ ?_
          | exact Nat.le_of_ble_eq_true rfl
          | exact int_eq (by assumption))
      · intro k hk
        have hk : a + 1 + k ≤ 2 := hk
        by_cases hltk : a + 1 + k < 2
        · have hwk : IntKind.i64.wrap (((a + 1 + k : Nat) : Int) + 1) = ((a + 1 + (k + 1) : Nat) : Int) := IntWalk.i64_in _ (by omega)
          have hsn : prO 2 a ++ prI a (k + 1) = (prO 2 a ++ prI a k) ++ [[(a : Int), ((a + 1 + k : Nat) : Int)]] := by rw [show prI a (k + 1) = prI a k ++ [[(a : Int), ((a + 1 + k : Nat) : Int)]] from rfl, List.append_assoc]
          have hp : prP zs fs o (a : Int) ((a + 1 + k : Nat) : Int) := okP_pr hS ⟨⟨by omega, by omega⟩, ⟨by omega, by omega⟩⟩
          have hrg : rng (zs, fs, o) (a : Int) ((a + 1 + k : Nat) : Int) := ⟨by omega, by omega, by show ((a + 1 + k : Nat) : Int) < fs.length; omega⟩
          have hQl : (ordF 1 (zs, fs, o) (prO 2 a ++ prI a k)).length ≤ 300 := ord_300 (by decide) hm (by omega) (by omega)
          obtain ⟨Q, hQ⟩ : ∃ Q, ordF 1 (zs, fs, o) (prO 2 a ++ prI a k) = Q := ⟨_, rfl⟩
          have hQl : Q.length ≤ 300 := by rw [← hQ]; exact hQl
          by_cases hn3 : (lfL zs fs o (a : Int) ((a + 1 + k : Nat) : Int)).length ≤ 3
          · have hn : nrw (zs, fs, o) [(a : Int), ((a + 1 + k : Nat) : Int)] := hn3
            obtain ⟨T, hT⟩ : ∃ T, mergeM zs fs o (a : Int) ((a + 1 + k : Nat) : Int) = T := ⟨_, rfl⟩
            have hTo : okP T.1 T.2.1 T.2.2 := by rw [← hT]; exact mrg_ok (S := (zs, fs, o)) hS hrg hn3
            have hTl : T.2.1.length = 1 := by have := mrg_fl (S := (zs, fs, o)) hrg; rw [← hT]; have h2 : Sm := (zs, fs, o); exact (by have e : (mrg (zs, fs, o) (a : Int) ((a + 1 + k : Nat) : Int)).2.1.length + 1 = fs.length := this; show (mrg (zs, fs, o) (a : Int) ((a + 1 + k : Nat) : Int)).2.1.length = 1; omega)
            obtain ⟨L, hL⟩ : ∃ L, ords 1 T = L := ⟨_, rfl⟩
            have hLc : L.length ≤ 18 := by rw [← hL]; exact ords_18 (by decide) hTl
            have hLo : ∀ i, i < L.length → (L.getD i []).length = 0 := fun i hi => by have := (ords_len 1 T hTl (L.getD i []) (by rw [hL]; exact mem_getD (d := ([] : List (List Int))) hi)).1; omega
            have hE : ordE 1 (zs, fs, o) [(a : Int), ((a + 1 + k : Nat) : Int)] = L.map (fun r => [(a : Int), ((a + 1 + k : Nat) : Int)] :: r) := (ordE_t hn).trans (by rw [← hL, ← hT]; rfl)
            conv => whnf
            repeat' (first
              | (refine l5Merge_callW hp hT ?_; conv => whnf)
              | (refine l5All_callW ih hTo hTl hL ?_; conv => whnf)
              | (refine fun (_ : _ ≤ maxLen) => ?_; conv => whnf)
              | (refine aGet_in rfl ?_; conv => whnf)
              | (refine load_same ?_; conv => whnf)
              | (refine And.intro (Nat.le_of_ble_eq_true rfl) ?_; conv => whnf)
              | (refine callG_t ?_; conv => whnf)
              | (refine append_same ?_; conv => whnf)
              | (refine And.intro (pureL_ii _ _) ?_; conv => whnf)
              | (refine cut_ii rfl ?_; conv => whnf)
              | (refine l5Narrow_call (by assumption) ?_; conv => whnf)
              | (refine takeN_in ?_; conv => whnf)
              | (refine And.intro (pureL_ints _ _) ?_; conv => whnf)
              | (refine cut_ints ?_; conv => whnf)
              | (refine And.intro (by kernel_rfl) ?_; conv => whnf)
              | refine aIf_not ?_
              | (refine aIf_dec (fun _ => ?_) (fun _ => ?_) <;> conv => whnf))
            all_goals (first | (exfalso; omega) | contradiction | skip)
            refine loop_to (ι := Nat) (fun i => ⟨[.un, .ptr 0 1 0, .un, .ref 2 3 0 (Q ++ (L.take i).map (fun r => [(a : Int), ((a + 1 + k : Nat) : Int)] :: r)).length, .int .i64 a, .int .i64 ((a + 1 + k : Nat) : Int), .ref 3 4 0 L.length, .int .i64 i, .un, .un, .un, .un, .un, .un, .un, .un, .un, .un, .un, .un, .un, .un, .un, .un, .un, .un, .un, .un, .un, .un, .un, .un, .un, .un, .un, .un, .un, .un, .un, .un, .un, .un, .un, .un, .un, .un, .un, .un, .un, .un, .un, .un, .un, .un, .un, .un, .un, .un, .un, .un, .un, .un], [⟨1, 29, 3, [.sl c zs.length (zs.map (.int .i64)), .sl d fs.length (fs.map (slI d)), .sl q o.length (o.map (.int .i64))]⟩, ⟨2, 23, 1, []⟩, ⟨3, 23, 1, (Q ++ (L.take i).map (fun r => [(a : Int), ((a + 1 + k : Nat) : Int)] :: r)).map (own2 3 22)⟩, ⟨4, 23, 1, unk3 3 22 L i⟩], 15, 0⟩) (fun i => i ≤ L.length) (fun i => L.length - i) 0 (Nat.zero_le _) ?_ ?_
            · rw [hQ]
              refine to_force [] ?_
              conv => whnf
              refine to_swap 3 6 [] _ _ rfl rfl (by decide) (Nat.zero_le _) (Nat.zero_le _) ?_
              refine to_force [] ?_
              conv => whnf
              refine St.le.to ?_
              conv => whnf
              repeat' (first | exact le_unk3R | exact le_cells (by simp) (pureL_o3 _ _ _) | refine And.intro ?_ ?_)
              repeat' (first
                | exact trivial
                | exact rfl
                | exact pureL_ints _ _
                | exact Or.inl (And.intro rfl rfl)
                | exact pureL_ii _ _
                | refine Or.inr ?_
                | refine And.intro ?_ ?_
                | exact Nat.le_of_ble_eq_true rfl
                | exact List.length_append)
              all_goals simp
            · intro i hi
              have hi : i ≤ L.length := hi
              have hXl : (Q ++ (L.take i).map (fun r => [(a : Int), ((a + 1 + k : Nat) : Int)] :: r)).length = Q.length + i := by rw [List.length_append, List.length_map, List.length_take]; omega
              by_cases hlti : i < L.length
              · have ho := hLo i hlti
                have hLs : (L.take (i + 1)).map (fun r => [(a : Int), ((a + 1 + k : Nat) : Int)] :: r) = (L.take i).map (fun r => [(a : Int), ((a + 1 + k : Nat) : Int)] :: r) ++ [[(a : Int), ((a + 1 + k : Nat) : Int)] :: L.getD i []] := by rw [List.take_add_one, getD_eq (d := ([] : List (List Int))) hlti, List.map_append]; rfl
                obtain ⟨x, hx⟩ : ∃ x, L.getD i [] = x := ⟨_, rfl⟩
                rw [hx] at ho hLs
                match x, ho with
                | [], _ =>
                  have hwi : IntKind.i64.wrap ((i : Int) + 1) = ((i + 1 : Nat) : Int) := IntWalk.i64_in _ (by omega)
                  conv => whnf
                  repeat' (first
                    | (refine get_unk3 hlti hx ?_; conv => whnf)
                    | (refine fun (_ : _ ≤ maxLen) => ?_; conv => whnf)
                    | (refine And.intro (by omega) ?_; conv => whnf)
                    | (refine append_same ?_; conv => whnf)
                    | (refine And.intro (And.intro (by kernel_rfl) (And.intro rfl (Nat.le_of_ble_eq_true rfl))) ?_; conv => whnf)
                    | (refine aIf_dec (fun _ => ?_) (fun _ => ?_) <;> conv => whnf))
                  all_goals (first | (exfalso; omega) | contradiction | skip)
                  refine append_l0 rfl rfl rfl ?_
                  conv => whnf
                  repeat' (first
                    | (refine append_same ?_; conv => whnf)
                    | (refine And.intro (And.intro (by kernel_rfl) (And.intro rfl (Nat.le_of_ble_eq_true rfl))) ?_; conv => whnf))
                  all_goals (first | (exfalso; omega) | contradiction | skip)
                  refine append_l3 rfl (by rw [List.length_map]) rfl rfl (by rw [hXl]; omega) (Nat.zero_le _) ?_
                  conv => whnf
                  repeat' (first
                    | (refine append_same ?_; conv => whnf))
                  all_goals (first | (exfalso; omega) | contradiction | skip)
                  refine next_to (i + 1) (show L.length - (i + 1) < L.length - i by omega) (by exact (by omega : i + 1 ≤ L.length)) ?_
                  refine to_close 5 0 4 _ _ 1 3 _ _ rfl rfl rfl (by decide) (Nat.zero_le _) (by decide) (by simp) ?_
                  refine to_force [false, false, false, false, false, true] ?_
                  conv => whnf
                  refine to_close 2 (Q ++ (L.take i).map (fun r => [(a : Int), ((a + 1 + k : Nat) : Int)] :: r)).length 5 _ _ 1 22 _ _ rfl ((List.getElem?_append_right (by rw [List.length_map]; omega)).trans (by rw [List.length_map, Nat.sub_self]; rfl)) rfl (by decide) (Nat.zero_le _) (by decide) (by simp) ?_
                  refine St.le.to ?_
                  conv => whnf
                  repeat' (first | exact le_unk3 (by omega) hlti | exact le_snoc3 (xs := [(a : Int), ((a + 1 + k : Nat) : Int)] :: []) hLs | exact len_snoc3 hLs | refine And.intro ?_ ?_)
                  repeat' (first
                    | exact trivial
                    | exact rfl
                    | exact pureL_ints _ _
                    | exact Or.inl (And.intro rfl rfl)
                    | exact pureL_ii _ _
                    | refine Or.inr ?_
                    | refine And.intro ?_ ?_
                    | exact Nat.le_of_ble_eq_true rfl
                    | exact int_eq (by assumption))
              · have hie : i = L.length := by omega
                subst hie
                conv => whnf
                repeat' (first
                  | (refine fun (_ : _ ≤ maxLen) => ?_; conv => whnf)
                  | (refine And.intro (by omega) ?_; conv => whnf)
                  | (refine append_same ?_; conv => whnf)
                  | (refine aIf_dec (fun _ => ?_) (fun _ => ?_) <;> conv => whnf))
                all_goals (first | (exfalso; omega) | contradiction | skip)
                refine next_to (k + 1) (show 2 - (k + 1) < 2 - k by omega) (by exact (by omega : a + 1 + (k + 1) ≤ 2)) ?_
                have hfin : ordF 1 (zs, fs, o) (prO 2 a ++ prI a (k + 1)) = Q ++ (L.take L.length).map (fun r => [(a : Int), ((a + 1 + k : Nat) : Int)] :: r) := by rw [hsn, ordF_snoc, hQ, hE, List.take_length]
                refine St.le.to ?_
                conv => whnf
                repeat' (first | exact le_cells (congrArg (List.map (own2 3 22)) hfin.symm) (pureL_o3 _ _ _) | exact congrArg List.length hfin | refine And.intro ?_ ?_)
                repeat' (first
                  | exact trivial
                  | exact rfl
                  | exact pureL_ints _ _
                  | exact Or.inl (And.intro rfl rfl)
                  | exact pureL_ii _ _
                  | refine Or.inr ?_
                  | refine And.intro ?_ ?_
                  | exact Nat.le_of_ble_eq_true rfl
                  | exact int_eq (by assumption))
          · have hE : ordE 1 (zs, fs, o) [(a : Int), ((a + 1 + k : Nat) : Int)] = [] := ordE_f fun h => hn3 h
            conv => whnf
            repeat' (first
              | (refine fun (_ : _ ≤ maxLen) => ?_; conv => whnf)
              | (refine aGet_in rfl ?_; conv => whnf)
              | (refine And.intro (by omega) ?_; conv => whnf)
              | (refine load_same ?_; conv => whnf)
              | (refine And.intro (Nat.le_of_ble_eq_true rfl) ?_; conv => whnf)
              | (refine callG_t ?_; conv => whnf)
              | (refine append_same ?_; conv => whnf)
              | (refine And.intro (pureL_ii _ _) ?_; conv => whnf)
              | (refine cut_ii rfl ?_; conv => whnf)
              | (refine l5Narrow_call (by assumption) ?_; conv => whnf)
              | (refine l5Merge_call (by assumption) ?_; conv => whnf)
              | (refine takeN_in ?_; conv => whnf)
              | (refine And.intro (pureL_ints _ _) ?_; conv => whnf)
              | (refine cut_ints ?_; conv => whnf)
              | (refine And.intro (by kernel_rfl) ?_; conv => whnf)
              | refine aIf_not ?_
              | (refine aIf_dec (fun _ => ?_) (fun _ => ?_) <;> conv => whnf))
            all_goals (first | (exfalso; omega) | contradiction | skip)
            refine next_to (k + 1) (show 2 - (k + 1) < 2 - k by omega) (by exact (by omega : a + 1 + (k + 1) ≤ 2)) ?_
            have hfin : ordF 1 (zs, fs, o) (prO 2 a ++ prI a (k + 1)) = ordF 1 (zs, fs, o) (prO 2 a ++ prI a k) := by rw [hsn, ordF_snoc, hE, List.append_nil]
            refine St.le.to ?_
            conv => whnf
            repeat' (first | exact le_cells (congrArg (List.map (own2 3 22)) hfin.symm) (pureL_o3 _ _ _) | exact congrArg List.length hfin | refine And.intro ?_ ?_)
            repeat' (first
              | exact trivial
              | exact rfl
              | exact pureL_ints _ _
              | exact Or.inl (And.intro rfl rfl)
              | exact pureL_ii _ _
              | refine Or.inr ?_
              | refine And.intro ?_ ?_
              | exact Nat.le_of_ble_eq_true rfl
              | exact int_eq (by assumption))
        · have hke : k = 2 - (a + 1) := by omega
          subst hke
          conv => whnf
          repeat' (first
            | (refine fun (_ : _ ≤ maxLen) => ?_; conv => whnf)
            | (refine aGet_in rfl ?_; conv => whnf)
            | (refine And.intro (by omega) ?_; conv => whnf)
            | (refine load_same ?_; conv => whnf)
            | (refine callG_t ?_; conv => whnf)
            | (refine append_same ?_; conv => whnf)
            | (refine takeN_in ?_; conv => whnf)
            | (refine aIf_dec (fun _ => ?_) (fun _ => ?_) <;> conv => whnf))
          all_goals (first | (exfalso; omega) | contradiction | skip)
          refine next_to (a + 1) (show 2 - (a + 1) < 2 - a by omega) (by exact (by omega : a + 1 ≤ 2)) ?_
          refine St.le.to ?_
          conv => whnf
          repeat' (first | exact le_cells rfl (pureL_o3 _ _ _) | refine And.intro ?_ ?_)
          repeat' (first
            | exact trivial
            | exact rfl
            | exact pureL_ints _ _
            | exact Or.inl (And.intro rfl rfl)
            | exact pureL_ii _ _
            | refine Or.inr ?_
            | refine And.intro ?_ ?_
            | exact Nat.le_of_ble_eq_true rfl
            | exact int_eq (by assumption))
    · have hae : a = 2 := by omega
      subst hae
      conv => whnf
      repeat' (first
        | (refine fun (_ : _ ≤ maxLen) => ?_; conv => whnf)
        | (refine aGet_in rfl ?_; conv => whnf)
        | (refine append_same ?_; conv => whnf)
        | (refine aIf_dec (fun _ => ?_) (fun _ => ?_) <;> conv => whnf))
      all_goals (first | (exfalso; omega) | contradiction | skip)
      exact retR rfl (protL_o3 _ _ _) (congrArg List.length hne).symm (congrArg (List.map (own2 3 22)) hne).symm
set_option maxHeartbeats 16000000 in
theorem l5All_3 (ih : Sound Try.prog 84 (sAll 2)) : Sound Try.prog 84 (sAll 3) := by
  refine sound_of Try.func84 rfl (enters_of Try.func84 (by kernel_rfl) (by kernel_rfl)) ?_
  rintro ⟨c, zs, d, fs, q, o⟩ hpre
  obtain ⟨hS, hm⟩ : okS (zs, fs, o) ∧ fs.length = 3 := hpre
  have hmax : maxLen = 9223372036854775807 := rfl
  have hne : ords 3 (zs, fs, o) = ordF 2 (zs, fs, o) (prO 3 3) := (ords_s (m := 2) (S := (zs, fs, o)) (by show fs.length ≠ 1; omega)).trans (by show ordF 2 (zs, fs, o) (prO fs.length fs.length) = _; rw [hm])
  conv => whnf
  repeat' (first
    | (refine fun (_ : _ ≤ maxLen) => ?_; conv => whnf)
    | (refine aGet_in rfl ?_; conv => whnf)
    | (refine And.intro (by omega) ?_; conv => whnf)
    | (refine And.intro rfl (And.intro (List.cons_ne_nil _ _) ?_); conv => whnf)
    | (refine append_same ?_; conv => whnf)
    | (refine And.intro (And.intro (by kernel_rfl) (And.intro rfl (Nat.le_of_ble_eq_true rfl))) ?_; conv => whnf)
    | (refine aIf_dec (fun _ => ?_) (fun _ => ?_) <;> conv => whnf))
  all_goals (first | (exfalso; omega) | contradiction | skip)
  refine loop_to (ι := Nat) (fun a => ⟨[.un, .ptr 0 1 0, .un, .ref 2 3 0 (ordF 2 (zs, fs, o) (prO 3 a)).length, .int .i64 a, .un, .un, .un, .un, .un, .un, .un, .un, .un, .un, .un, .un, .un, .un, .un, .un, .un, .un, .un, .un, .un, .un, .un, .un, .un, .un, .un, .un, .un, .un, .un, .un, .un, .un, .un, .un, .un, .un, .un, .un, .un, .un, .un, .un, .un, .un, .un, .un, .un, .un, .un, .un, .un, .un, .un, .un, .un], [⟨1, 29, 3, [.sl c zs.length (zs.map (.int .i64)), .sl d fs.length (fs.map (slI d)), .sl q o.length (o.map (.int .i64))]⟩, ⟨2, 23, 1, []⟩, ⟨3, 23, 1, (ordF 2 (zs, fs, o) (prO 3 a)).map (own2 3 22)⟩], 9, 0⟩) (fun a => a ≤ 3) (fun a => 3 - a) 0 (Nat.zero_le _) ?_ ?_
  · refine St.le.to ?_
    conv => whnf
    repeat' (first
      | exact trivial
      | exact rfl
      | exact pureL_ints _ _
      | exact Or.inl (And.intro rfl rfl)
      | exact pureL_ii _ _
      | refine Or.inr ?_
      | refine And.intro ?_ ?_
      | exact Nat.le_of_ble_eq_true rfl)
  · intro a ha
    have ha : a ≤ 3 := ha
    by_cases hlta : a < 3
    · have hwa : IntKind.i64.wrap ((a : Int) + 1) = ((a + 1 + 0 : Nat) : Int) := IntWalk.i64_in _ (by omega)
      have hwa2 : IntKind.i64.wrap ((a : Int) + 1) = ((a + 1 : Nat) : Int) := IntWalk.i64_in _ (by omega)
      conv => whnf
      repeat' (first
        | (refine fun (_ : _ ≤ maxLen) => ?_; conv => whnf)
        | (refine aGet_in rfl ?_; conv => whnf)
        | (refine append_same ?_; conv => whnf)
        | (refine aIf_dec (fun _ => ?_) (fun _ => ?_) <;> conv => whnf))
      all_goals (first | (exfalso; omega) | contradiction | skip)
      refine loop_to (ι := Nat) (fun k => ⟨[.un, .ptr 0 1 0, .un, .ref 2 3 0 (ordF 2 (zs, fs, o) (prO 3 a ++ prI a k)).length, .int .i64 a, .int .i64 ((a + 1 + k : Nat) : Int), .un, .un, .un, .un, .un, .un, .un, .un, .un, .un, .un, .un, .un, .un, .un, .un, .un, .un, .un, .un, .un, .un, .un, .un, .un, .un, .un, .un, .un, .un, .un, .un, .un, .un, .un, .un, .un, .un, .un, .un, .un, .un, .un, .un, .un, .un, .un, .un, .un, .un, .un, .un, .un, .un, .un, .un], [⟨1, 29, 3, [.sl c zs.length (zs.map (.int .i64)), .sl d fs.length (fs.map (slI d)), .sl q o.length (o.map (.int .i64))]⟩, ⟨2, 23, 1, []⟩, ⟨3, 23, 1, (ordF 2 (zs, fs, o) (prO 3 a ++ prI a k)).map (own2 3 22)⟩], 9, 0⟩) (fun k => a + 1 + k ≤ 3) (fun k => 3 - k) 0 (by exact (by omega : a + 1 + 0 ≤ 3)) ?_ ?_
      · refine St.le.to ?_
        conv => whnf
        repeat' (first | exact le_cells (by simp [prI]) (pureL_o3 _ _ _) | exact nat_pr | refine And.intro ?_ ?_)
        repeat' (first
          | exact trivial
          | exact rfl
          | exact pureL_ints _ _
          | exact Or.inl (And.intro rfl rfl)
          | exact pureL_ii _ _
          | refine Or.inr ?_
          | refine And.intro ?_ ?_
          | exact Nat.le_of_ble_eq_true rfl
          | exact int_eq (by assumption))
      · intro k hk
        have hk : a + 1 + k ≤ 3 := hk
        by_cases hltk : a + 1 + k < 3
        · have hwk : IntKind.i64.wrap (((a + 1 + k : Nat) : Int) + 1) = ((a + 1 + (k + 1) : Nat) : Int) := IntWalk.i64_in _ (by omega)
          have hsn : prO 3 a ++ prI a (k + 1) = (prO 3 a ++ prI a k) ++ [[(a : Int), ((a + 1 + k : Nat) : Int)]] := by rw [show prI a (k + 1) = prI a k ++ [[(a : Int), ((a + 1 + k : Nat) : Int)]] from rfl, List.append_assoc]
          have hp : prP zs fs o (a : Int) ((a + 1 + k : Nat) : Int) := okP_pr hS ⟨⟨by omega, by omega⟩, ⟨by omega, by omega⟩⟩
          have hrg : rng (zs, fs, o) (a : Int) ((a + 1 + k : Nat) : Int) := ⟨by omega, by omega, by show ((a + 1 + k : Nat) : Int) < fs.length; omega⟩
          have hQl : (ordF 2 (zs, fs, o) (prO 3 a ++ prI a k)).length ≤ 300 := ord_300 (by decide) hm (by omega) (by omega)
          obtain ⟨Q, hQ⟩ : ∃ Q, ordF 2 (zs, fs, o) (prO 3 a ++ prI a k) = Q := ⟨_, rfl⟩
          have hQl : Q.length ≤ 300 := by rw [← hQ]; exact hQl
          by_cases hn3 : (lfL zs fs o (a : Int) ((a + 1 + k : Nat) : Int)).length ≤ 3
          · have hn : nrw (zs, fs, o) [(a : Int), ((a + 1 + k : Nat) : Int)] := hn3
            obtain ⟨T, hT⟩ : ∃ T, mergeM zs fs o (a : Int) ((a + 1 + k : Nat) : Int) = T := ⟨_, rfl⟩
            have hTo : okP T.1 T.2.1 T.2.2 := by rw [← hT]; exact mrg_ok (S := (zs, fs, o)) hS hrg hn3
            have hTl : T.2.1.length = 2 := by have := mrg_fl (S := (zs, fs, o)) hrg; rw [← hT]; have h2 : Sm := (zs, fs, o); exact (by have e : (mrg (zs, fs, o) (a : Int) ((a + 1 + k : Nat) : Int)).2.1.length + 1 = fs.length := this; show (mrg (zs, fs, o) (a : Int) ((a + 1 + k : Nat) : Int)).2.1.length = 2; omega)
            obtain ⟨L, hL⟩ : ∃ L, ords 2 T = L := ⟨_, rfl⟩
            have hLc : L.length ≤ 18 := by rw [← hL]; exact ords_18 (by decide) hTl
            have hLo : ∀ i, i < L.length → (L.getD i []).length = 1 := fun i hi => by have := (ords_len 2 T hTl (L.getD i []) (by rw [hL]; exact mem_getD (d := ([] : List (List Int))) hi)).1; omega
            have hE : ordE 2 (zs, fs, o) [(a : Int), ((a + 1 + k : Nat) : Int)] = L.map (fun r => [(a : Int), ((a + 1 + k : Nat) : Int)] :: r) := (ordE_t hn).trans (by rw [← hL, ← hT]; rfl)
            conv => whnf
            repeat' (first
              | (refine l5Merge_callW hp hT ?_; conv => whnf)
              | (refine l5All_callW ih hTo hTl hL ?_; conv => whnf)
              | (refine fun (_ : _ ≤ maxLen) => ?_; conv => whnf)
              | (refine aGet_in rfl ?_; conv => whnf)
              | (refine load_same ?_; conv => whnf)
              | (refine And.intro (Nat.le_of_ble_eq_true rfl) ?_; conv => whnf)
              | (refine callG_t ?_; conv => whnf)
              | (refine append_same ?_; conv => whnf)
              | (refine And.intro (pureL_ii _ _) ?_; conv => whnf)
              | (refine cut_ii rfl ?_; conv => whnf)
              | (refine l5Narrow_call (by assumption) ?_; conv => whnf)
              | (refine takeN_in ?_; conv => whnf)
              | (refine And.intro (pureL_ints _ _) ?_; conv => whnf)
              | (refine cut_ints ?_; conv => whnf)
              | (refine And.intro (by kernel_rfl) ?_; conv => whnf)
              | refine aIf_not ?_
              | (refine aIf_dec (fun _ => ?_) (fun _ => ?_) <;> conv => whnf))
            all_goals (first | (exfalso; omega) | contradiction | skip)
            refine loop_to (ι := Nat) (fun i => ⟨[.un, .ptr 0 1 0, .un, .ref 2 3 0 (Q ++ (L.take i).map (fun r => [(a : Int), ((a + 1 + k : Nat) : Int)] :: r)).length, .int .i64 a, .int .i64 ((a + 1 + k : Nat) : Int), .ref 3 4 0 L.length, .int .i64 i, .un, .un, .un, .un, .un, .un, .un, .un, .un, .un, .un, .un, .un, .un, .un, .un, .un, .un, .un, .un, .un, .un, .un, .un, .un, .un, .un, .un, .un, .un, .un, .un, .un, .un, .un, .un, .un, .un, .un, .un, .un, .un, .un, .un, .un, .un, .un, .un, .un, .un, .un, .un, .un, .un], [⟨1, 29, 3, [.sl c zs.length (zs.map (.int .i64)), .sl d fs.length (fs.map (slI d)), .sl q o.length (o.map (.int .i64))]⟩, ⟨2, 23, 1, []⟩, ⟨3, 23, 1, (Q ++ (L.take i).map (fun r => [(a : Int), ((a + 1 + k : Nat) : Int)] :: r)).map (own2 3 22)⟩, ⟨4, 23, 1, unk3 3 22 L i⟩], 15, 0⟩) (fun i => i ≤ L.length) (fun i => L.length - i) 0 (Nat.zero_le _) ?_ ?_
            · rw [hQ]
              refine to_force [] ?_
              conv => whnf
              refine to_swap 3 6 [] _ _ rfl rfl (by decide) (Nat.zero_le _) (Nat.zero_le _) ?_
              refine to_force [] ?_
              conv => whnf
              refine St.le.to ?_
              conv => whnf
              repeat' (first | exact le_unk3R | exact le_cells (by simp) (pureL_o3 _ _ _) | refine And.intro ?_ ?_)
              repeat' (first
                | exact trivial
                | exact rfl
                | exact pureL_ints _ _
                | exact Or.inl (And.intro rfl rfl)
                | exact pureL_ii _ _
                | refine Or.inr ?_
                | refine And.intro ?_ ?_
                | exact Nat.le_of_ble_eq_true rfl
                | exact List.length_append)
              all_goals simp
            · intro i hi
              have hi : i ≤ L.length := hi
              have hXl : (Q ++ (L.take i).map (fun r => [(a : Int), ((a + 1 + k : Nat) : Int)] :: r)).length = Q.length + i := by rw [List.length_append, List.length_map, List.length_take]; omega
              by_cases hlti : i < L.length
              · have ho := hLo i hlti
                have hLs : (L.take (i + 1)).map (fun r => [(a : Int), ((a + 1 + k : Nat) : Int)] :: r) = (L.take i).map (fun r => [(a : Int), ((a + 1 + k : Nat) : Int)] :: r) ++ [[(a : Int), ((a + 1 + k : Nat) : Int)] :: L.getD i []] := by rw [List.take_add_one, getD_eq (d := ([] : List (List Int))) hlti, List.map_append]; rfl
                obtain ⟨x, hx⟩ : ∃ x, L.getD i [] = x := ⟨_, rfl⟩
                rw [hx] at ho hLs
                match x, ho with
                | [u], _ =>
                  have hwi : IntKind.i64.wrap ((i : Int) + 1) = ((i + 1 : Nat) : Int) := IntWalk.i64_in _ (by omega)
                  conv => whnf
                  repeat' (first
                    | (refine get_unk3 hlti hx ?_; conv => whnf)
                    | (refine Exists.intro _ (And.intro (St.opens.step _ _ 6 0 _ 3 1 _ _ (by exact rfl) (by exact rfl) (St.opens.refl _)) ?_))
                    | (refine fun (_ : _ ≤ maxLen) => ?_; conv => whnf)
                    | (refine And.intro (by omega) ?_; conv => whnf)
                    | (refine append_same ?_; conv => whnf)
                    | (refine And.intro (And.intro (by kernel_rfl) (And.intro rfl (Nat.le_of_ble_eq_true rfl))) ?_; conv => whnf)
                    | (refine aIf_dec (fun _ => ?_) (fun _ => ?_) <;> conv => whnf))
                  all_goals (first | (exfalso; omega) | contradiction | skip)
                  refine append_ll rfl rfl rfl rfl (by simp) (Nat.zero_le _) ?_
                  conv => whnf
                  repeat' (first
                    | (refine append_same ?_; conv => whnf)
                    | (refine And.intro (And.intro (by kernel_rfl) (And.intro rfl (Nat.le_of_ble_eq_true rfl))) ?_; conv => whnf))
                  all_goals (first | (exfalso; omega) | contradiction | skip)
                  refine append_l3 rfl (by rw [List.length_map]) rfl rfl (by rw [hXl]; omega) (Nat.zero_le _) ?_
                  conv => whnf
                  repeat' (first
                    | (refine append_same ?_; conv => whnf))
                  all_goals (first | (exfalso; omega) | contradiction | skip)
                  refine next_to (i + 1) (show L.length - (i + 1) < L.length - i by omega) (by exact (by omega : i + 1 ≤ L.length)) ?_
                  refine to_close 5 0 4 _ _ 1 3 _ _ rfl rfl rfl (by decide) (Nat.zero_le _) (by decide) (by simp) ?_
                  refine to_force [false, false, false, false, false, true] ?_
                  conv => whnf
                  refine to_close 5 1 7 _ _ 1 3 _ _ rfl rfl rfl (by decide) (Nat.zero_le _) (by decide) (by simp) ?_
                  refine to_force [false, false, false, false, false, true] ?_
                  conv => whnf
                  refine to_close 2 (Q ++ (L.take i).map (fun r => [(a : Int), ((a + 1 + k : Nat) : Int)] :: r)).length 5 _ _ 1 22 _ _ rfl ((List.getElem?_append_right (by rw [List.length_map]; omega)).trans (by rw [List.length_map, Nat.sub_self]; rfl)) rfl (by decide) (Nat.zero_le _) (by decide) (by simp) ?_
                  refine St.le.to ?_
                  conv => whnf
                  repeat' (first | exact le_unk3 (by omega) hlti | exact le_snoc3 (xs := [(a : Int), ((a + 1 + k : Nat) : Int)] :: [u]) hLs | exact len_snoc3 hLs | refine And.intro ?_ ?_)
                  repeat' (first
                    | exact trivial
                    | exact rfl
                    | exact pureL_ints _ _
                    | exact Or.inl (And.intro rfl rfl)
                    | exact pureL_ii _ _
                    | refine Or.inr ?_
                    | refine And.intro ?_ ?_
                    | exact Nat.le_of_ble_eq_true rfl
                    | exact int_eq (by assumption))
              · have hie : i = L.length := by omega
                subst hie
                conv => whnf
                repeat' (first
                  | (refine fun (_ : _ ≤ maxLen) => ?_; conv => whnf)
                  | (refine And.intro (by omega) ?_; conv => whnf)
                  | (refine append_same ?_; conv => whnf)
                  | (refine aIf_dec (fun _ => ?_) (fun _ => ?_) <;> conv => whnf))
                all_goals (first | (exfalso; omega) | contradiction | skip)
                refine next_to (k + 1) (show 3 - (k + 1) < 3 - k by omega) (by exact (by omega : a + 1 + (k + 1) ≤ 3)) ?_
                have hfin : ordF 2 (zs, fs, o) (prO 3 a ++ prI a (k + 1)) = Q ++ (L.take L.length).map (fun r => [(a : Int), ((a + 1 + k : Nat) : Int)] :: r) := by rw [hsn, ordF_snoc, hQ, hE, List.take_length]
                refine St.le.to ?_
                conv => whnf
                repeat' (first | exact le_cells (congrArg (List.map (own2 3 22)) hfin.symm) (pureL_o3 _ _ _) | exact congrArg List.length hfin | refine And.intro ?_ ?_)
                repeat' (first
                  | exact trivial
                  | exact rfl
                  | exact pureL_ints _ _
                  | exact Or.inl (And.intro rfl rfl)
                  | exact pureL_ii _ _
                  | refine Or.inr ?_
                  | refine And.intro ?_ ?_
                  | exact Nat.le_of_ble_eq_true rfl
                  | exact int_eq (by assumption))
          · have hE : ordE 2 (zs, fs, o) [(a : Int), ((a + 1 + k : Nat) : Int)] = [] := ordE_f fun h => hn3 h
            conv => whnf
            repeat' (first
              | (refine fun (_ : _ ≤ maxLen) => ?_; conv => whnf)
              | (refine aGet_in rfl ?_; conv => whnf)
              | (refine And.intro (by omega) ?_; conv => whnf)
              | (refine load_same ?_; conv => whnf)
              | (refine And.intro (Nat.le_of_ble_eq_true rfl) ?_; conv => whnf)
              | (refine callG_t ?_; conv => whnf)
              | (refine append_same ?_; conv => whnf)
              | (refine And.intro (pureL_ii _ _) ?_; conv => whnf)
              | (refine cut_ii rfl ?_; conv => whnf)
              | (refine l5Narrow_call (by assumption) ?_; conv => whnf)
              | (refine l5Merge_call (by assumption) ?_; conv => whnf)
              | (refine takeN_in ?_; conv => whnf)
              | (refine And.intro (pureL_ints _ _) ?_; conv => whnf)
              | (refine cut_ints ?_; conv => whnf)
              | (refine And.intro (by kernel_rfl) ?_; conv => whnf)
              | refine aIf_not ?_
              | (refine aIf_dec (fun _ => ?_) (fun _ => ?_) <;> conv => whnf))
            all_goals (first | (exfalso; omega) | contradiction | skip)
            refine next_to (k + 1) (show 3 - (k + 1) < 3 - k by omega) (by exact (by omega : a + 1 + (k + 1) ≤ 3)) ?_
            have hfin : ordF 2 (zs, fs, o) (prO 3 a ++ prI a (k + 1)) = ordF 2 (zs, fs, o) (prO 3 a ++ prI a k) := by rw [hsn, ordF_snoc, hE, List.append_nil]
            refine St.le.to ?_
            conv => whnf
            repeat' (first | exact le_cells (congrArg (List.map (own2 3 22)) hfin.symm) (pureL_o3 _ _ _) | exact congrArg List.length hfin | refine And.intro ?_ ?_)
            repeat' (first
              | exact trivial
              | exact rfl
              | exact pureL_ints _ _
              | exact Or.inl (And.intro rfl rfl)
              | exact pureL_ii _ _
              | refine Or.inr ?_
              | refine And.intro ?_ ?_
              | exact Nat.le_of_ble_eq_true rfl
              | exact int_eq (by assumption))
        · have hke : k = 3 - (a + 1) := by omega
          subst hke
          conv => whnf
          repeat' (first
            | (refine fun (_ : _ ≤ maxLen) => ?_; conv => whnf)
            | (refine aGet_in rfl ?_; conv => whnf)
            | (refine And.intro (by omega) ?_; conv => whnf)
            | (refine load_same ?_; conv => whnf)
            | (refine callG_t ?_; conv => whnf)
            | (refine append_same ?_; conv => whnf)
            | (refine takeN_in ?_; conv => whnf)
            | (refine aIf_dec (fun _ => ?_) (fun _ => ?_) <;> conv => whnf))
          all_goals (first | (exfalso; omega) | contradiction | skip)
          refine next_to (a + 1) (show 3 - (a + 1) < 3 - a by omega) (by exact (by omega : a + 1 ≤ 3)) ?_
          refine St.le.to ?_
          conv => whnf
          repeat' (first | exact le_cells rfl (pureL_o3 _ _ _) | refine And.intro ?_ ?_)
          repeat' (first
            | exact trivial
            | exact rfl
            | exact pureL_ints _ _
            | exact Or.inl (And.intro rfl rfl)
            | exact pureL_ii _ _
            | refine Or.inr ?_
            | refine And.intro ?_ ?_
            | exact Nat.le_of_ble_eq_true rfl
            | exact int_eq (by assumption))
    · have hae : a = 3 := by omega
      subst hae
      conv => whnf
      repeat' (first
        | (refine fun (_ : _ ≤ maxLen) => ?_; conv => whnf)
        | (refine aGet_in rfl ?_; conv => whnf)
        | (refine append_same ?_; conv => whnf)
        | (refine aIf_dec (fun _ => ?_) (fun _ => ?_) <;> conv => whnf))
      all_goals (first | (exfalso; omega) | contradiction | skip)
      exact retR rfl (protL_o3 _ _ _) (congrArg List.length hne).symm (congrArg (List.map (own2 3 22)) hne).symm
set_option maxHeartbeats 16000000 in
theorem l5All_4 (ih : Sound Try.prog 84 (sAll 3)) : Sound Try.prog 84 (sAll 4) := by
  refine sound_of Try.func84 rfl (enters_of Try.func84 (by kernel_rfl) (by kernel_rfl)) ?_
  rintro ⟨c, zs, d, fs, q, o⟩ hpre
  obtain ⟨hS, hm⟩ : okS (zs, fs, o) ∧ fs.length = 4 := hpre
  have hmax : maxLen = 9223372036854775807 := rfl
  have hne : ords 4 (zs, fs, o) = ordF 3 (zs, fs, o) (prO 4 4) := (ords_s (m := 3) (S := (zs, fs, o)) (by show fs.length ≠ 1; omega)).trans (by show ordF 3 (zs, fs, o) (prO fs.length fs.length) = _; rw [hm])
  conv => whnf
  repeat' (first
    | (refine fun (_ : _ ≤ maxLen) => ?_; conv => whnf)
    | (refine aGet_in rfl ?_; conv => whnf)
    | (refine And.intro (by omega) ?_; conv => whnf)
    | (refine And.intro rfl (And.intro (List.cons_ne_nil _ _) ?_); conv => whnf)
    | (refine append_same ?_; conv => whnf)
    | (refine And.intro (And.intro (by kernel_rfl) (And.intro rfl (Nat.le_of_ble_eq_true rfl))) ?_; conv => whnf)
    | (refine aIf_dec (fun _ => ?_) (fun _ => ?_) <;> conv => whnf))
  all_goals (first | (exfalso; omega) | contradiction | skip)
  refine loop_to (ι := Nat) (fun a => ⟨[.un, .ptr 0 1 0, .un, .ref 2 3 0 (ordF 3 (zs, fs, o) (prO 4 a)).length, .int .i64 a, .un, .un, .un, .un, .un, .un, .un, .un, .un, .un, .un, .un, .un, .un, .un, .un, .un, .un, .un, .un, .un, .un, .un, .un, .un, .un, .un, .un, .un, .un, .un, .un, .un, .un, .un, .un, .un, .un, .un, .un, .un, .un, .un, .un, .un, .un, .un, .un, .un, .un, .un, .un, .un, .un, .un, .un, .un], [⟨1, 29, 3, [.sl c zs.length (zs.map (.int .i64)), .sl d fs.length (fs.map (slI d)), .sl q o.length (o.map (.int .i64))]⟩, ⟨2, 23, 1, []⟩, ⟨3, 23, 1, (ordF 3 (zs, fs, o) (prO 4 a)).map (own2 3 22)⟩], 9, 0⟩) (fun a => a ≤ 4) (fun a => 4 - a) 0 (Nat.zero_le _) ?_ ?_
  · refine St.le.to ?_
    conv => whnf
    repeat' (first
      | exact trivial
      | exact rfl
      | exact pureL_ints _ _
      | exact Or.inl (And.intro rfl rfl)
      | exact pureL_ii _ _
      | refine Or.inr ?_
      | refine And.intro ?_ ?_
      | exact Nat.le_of_ble_eq_true rfl)
  · intro a ha
    have ha : a ≤ 4 := ha
    by_cases hlta : a < 4
    · have hwa : IntKind.i64.wrap ((a : Int) + 1) = ((a + 1 + 0 : Nat) : Int) := IntWalk.i64_in _ (by omega)
      have hwa2 : IntKind.i64.wrap ((a : Int) + 1) = ((a + 1 : Nat) : Int) := IntWalk.i64_in _ (by omega)
      conv => whnf
      repeat' (first
        | (refine fun (_ : _ ≤ maxLen) => ?_; conv => whnf)
        | (refine aGet_in rfl ?_; conv => whnf)
        | (refine append_same ?_; conv => whnf)
        | (refine aIf_dec (fun _ => ?_) (fun _ => ?_) <;> conv => whnf))
      all_goals (first | (exfalso; omega) | contradiction | skip)
      refine loop_to (ι := Nat) (fun k => ⟨[.un, .ptr 0 1 0, .un, .ref 2 3 0 (ordF 3 (zs, fs, o) (prO 4 a ++ prI a k)).length, .int .i64 a, .int .i64 ((a + 1 + k : Nat) : Int), .un, .un, .un, .un, .un, .un, .un, .un, .un, .un, .un, .un, .un, .un, .un, .un, .un, .un, .un, .un, .un, .un, .un, .un, .un, .un, .un, .un, .un, .un, .un, .un, .un, .un, .un, .un, .un, .un, .un, .un, .un, .un, .un, .un, .un, .un, .un, .un, .un, .un, .un, .un, .un, .un, .un, .un], [⟨1, 29, 3, [.sl c zs.length (zs.map (.int .i64)), .sl d fs.length (fs.map (slI d)), .sl q o.length (o.map (.int .i64))]⟩, ⟨2, 23, 1, []⟩, ⟨3, 23, 1, (ordF 3 (zs, fs, o) (prO 4 a ++ prI a k)).map (own2 3 22)⟩], 9, 0⟩) (fun k => a + 1 + k ≤ 4) (fun k => 4 - k) 0 (by exact (by omega : a + 1 + 0 ≤ 4)) ?_ ?_
      · refine St.le.to ?_
        conv => whnf
        repeat' (first | exact le_cells (by simp [prI]) (pureL_o3 _ _ _) | exact nat_pr | refine And.intro ?_ ?_)
        repeat' (first
          | exact trivial
          | exact rfl
          | exact pureL_ints _ _
          | exact Or.inl (And.intro rfl rfl)
          | exact pureL_ii _ _
          | refine Or.inr ?_
          | refine And.intro ?_ ?_
          | exact Nat.le_of_ble_eq_true rfl
          | exact int_eq (by assumption))
      · intro k hk
        have hk : a + 1 + k ≤ 4 := hk
        by_cases hltk : a + 1 + k < 4
        · have hwk : IntKind.i64.wrap (((a + 1 + k : Nat) : Int) + 1) = ((a + 1 + (k + 1) : Nat) : Int) := IntWalk.i64_in _ (by omega)
          have hsn : prO 4 a ++ prI a (k + 1) = (prO 4 a ++ prI a k) ++ [[(a : Int), ((a + 1 + k : Nat) : Int)]] := by rw [show prI a (k + 1) = prI a k ++ [[(a : Int), ((a + 1 + k : Nat) : Int)]] from rfl, List.append_assoc]
          have hp : prP zs fs o (a : Int) ((a + 1 + k : Nat) : Int) := okP_pr hS ⟨⟨by omega, by omega⟩, ⟨by omega, by omega⟩⟩
          have hrg : rng (zs, fs, o) (a : Int) ((a + 1 + k : Nat) : Int) := ⟨by omega, by omega, by show ((a + 1 + k : Nat) : Int) < fs.length; omega⟩
          have hQl : (ordF 3 (zs, fs, o) (prO 4 a ++ prI a k)).length ≤ 300 := ord_300 (by decide) hm (by omega) (by omega)
          obtain ⟨Q, hQ⟩ : ∃ Q, ordF 3 (zs, fs, o) (prO 4 a ++ prI a k) = Q := ⟨_, rfl⟩
          have hQl : Q.length ≤ 300 := by rw [← hQ]; exact hQl
          by_cases hn3 : (lfL zs fs o (a : Int) ((a + 1 + k : Nat) : Int)).length ≤ 3
          · have hn : nrw (zs, fs, o) [(a : Int), ((a + 1 + k : Nat) : Int)] := hn3
            obtain ⟨T, hT⟩ : ∃ T, mergeM zs fs o (a : Int) ((a + 1 + k : Nat) : Int) = T := ⟨_, rfl⟩
            have hTo : okP T.1 T.2.1 T.2.2 := by rw [← hT]; exact mrg_ok (S := (zs, fs, o)) hS hrg hn3
            have hTl : T.2.1.length = 3 := by have := mrg_fl (S := (zs, fs, o)) hrg; rw [← hT]; have h2 : Sm := (zs, fs, o); exact (by have e : (mrg (zs, fs, o) (a : Int) ((a + 1 + k : Nat) : Int)).2.1.length + 1 = fs.length := this; show (mrg (zs, fs, o) (a : Int) ((a + 1 + k : Nat) : Int)).2.1.length = 3; omega)
            obtain ⟨L, hL⟩ : ∃ L, ords 3 T = L := ⟨_, rfl⟩
            have hLc : L.length ≤ 18 := by rw [← hL]; exact ords_18 (by decide) hTl
            have hLo : ∀ i, i < L.length → (L.getD i []).length = 2 := fun i hi => by have := (ords_len 3 T hTl (L.getD i []) (by rw [hL]; exact mem_getD (d := ([] : List (List Int))) hi)).1; omega
            have hE : ordE 3 (zs, fs, o) [(a : Int), ((a + 1 + k : Nat) : Int)] = L.map (fun r => [(a : Int), ((a + 1 + k : Nat) : Int)] :: r) := (ordE_t hn).trans (by rw [← hL, ← hT]; rfl)
            conv => whnf
            repeat' (first
              | (refine l5Merge_callW hp hT ?_; conv => whnf)
              | (refine l5All_callW ih hTo hTl hL ?_; conv => whnf)
              | (refine fun (_ : _ ≤ maxLen) => ?_; conv => whnf)
              | (refine aGet_in rfl ?_; conv => whnf)
              | (refine load_same ?_; conv => whnf)
              | (refine And.intro (Nat.le_of_ble_eq_true rfl) ?_; conv => whnf)
              | (refine callG_t ?_; conv => whnf)
              | (refine append_same ?_; conv => whnf)
              | (refine And.intro (pureL_ii _ _) ?_; conv => whnf)
              | (refine cut_ii rfl ?_; conv => whnf)
              | (refine l5Narrow_call (by assumption) ?_; conv => whnf)
              | (refine takeN_in ?_; conv => whnf)
              | (refine And.intro (pureL_ints _ _) ?_; conv => whnf)
              | (refine cut_ints ?_; conv => whnf)
              | (refine And.intro (by kernel_rfl) ?_; conv => whnf)
              | refine aIf_not ?_
              | (refine aIf_dec (fun _ => ?_) (fun _ => ?_) <;> conv => whnf))
            all_goals (first | (exfalso; omega) | contradiction | skip)
            refine loop_to (ι := Nat) (fun i => ⟨[.un, .ptr 0 1 0, .un, .ref 2 3 0 (Q ++ (L.take i).map (fun r => [(a : Int), ((a + 1 + k : Nat) : Int)] :: r)).length, .int .i64 a, .int .i64 ((a + 1 + k : Nat) : Int), .ref 3 4 0 L.length, .int .i64 i, .un, .un, .un, .un, .un, .un, .un, .un, .un, .un, .un, .un, .un, .un, .un, .un, .un, .un, .un, .un, .un, .un, .un, .un, .un, .un, .un, .un, .un, .un, .un, .un, .un, .un, .un, .un, .un, .un, .un, .un, .un, .un, .un, .un, .un, .un, .un, .un, .un, .un, .un, .un, .un, .un], [⟨1, 29, 3, [.sl c zs.length (zs.map (.int .i64)), .sl d fs.length (fs.map (slI d)), .sl q o.length (o.map (.int .i64))]⟩, ⟨2, 23, 1, []⟩, ⟨3, 23, 1, (Q ++ (L.take i).map (fun r => [(a : Int), ((a + 1 + k : Nat) : Int)] :: r)).map (own2 3 22)⟩, ⟨4, 23, 1, unk3 3 22 L i⟩], 15, 0⟩) (fun i => i ≤ L.length) (fun i => L.length - i) 0 (Nat.zero_le _) ?_ ?_
            · rw [hQ]
              refine to_force [] ?_
              conv => whnf
              refine to_swap 3 6 [] _ _ rfl rfl (by decide) (Nat.zero_le _) (Nat.zero_le _) ?_
              refine to_force [] ?_
              conv => whnf
              refine St.le.to ?_
              conv => whnf
              repeat' (first | exact le_unk3R | exact le_cells (by simp) (pureL_o3 _ _ _) | refine And.intro ?_ ?_)
              repeat' (first
                | exact trivial
                | exact rfl
                | exact pureL_ints _ _
                | exact Or.inl (And.intro rfl rfl)
                | exact pureL_ii _ _
                | refine Or.inr ?_
                | refine And.intro ?_ ?_
                | exact Nat.le_of_ble_eq_true rfl
                | exact List.length_append)
              all_goals simp
            · intro i hi
              have hi : i ≤ L.length := hi
              have hXl : (Q ++ (L.take i).map (fun r => [(a : Int), ((a + 1 + k : Nat) : Int)] :: r)).length = Q.length + i := by rw [List.length_append, List.length_map, List.length_take]; omega
              by_cases hlti : i < L.length
              · have ho := hLo i hlti
                have hLs : (L.take (i + 1)).map (fun r => [(a : Int), ((a + 1 + k : Nat) : Int)] :: r) = (L.take i).map (fun r => [(a : Int), ((a + 1 + k : Nat) : Int)] :: r) ++ [[(a : Int), ((a + 1 + k : Nat) : Int)] :: L.getD i []] := by rw [List.take_add_one, getD_eq (d := ([] : List (List Int))) hlti, List.map_append]; rfl
                obtain ⟨x, hx⟩ : ∃ x, L.getD i [] = x := ⟨_, rfl⟩
                rw [hx] at ho hLs
                match x, ho with
                | [u, v], _ =>
                  have hwi : IntKind.i64.wrap ((i : Int) + 1) = ((i + 1 : Nat) : Int) := IntWalk.i64_in _ (by omega)
                  conv => whnf
                  repeat' (first
                    | (refine get_unk3 hlti hx ?_; conv => whnf)
                    | (refine Exists.intro _ (And.intro (St.opens.step _ _ 6 0 _ 3 1 _ _ (by exact rfl) (by exact rfl) (St.opens.step _ _ 6 1 _ 3 1 _ _ (by exact rfl) (by exact rfl) (St.opens.refl _))) ?_))
                    | (refine fun (_ : _ ≤ maxLen) => ?_; conv => whnf)
                    | (refine And.intro (by omega) ?_; conv => whnf)
                    | (refine append_same ?_; conv => whnf)
                    | (refine And.intro (And.intro (by kernel_rfl) (And.intro rfl (Nat.le_of_ble_eq_true rfl))) ?_; conv => whnf)
                    | (refine aIf_dec (fun _ => ?_) (fun _ => ?_) <;> conv => whnf))
                  all_goals (first | (exfalso; omega) | contradiction | skip)
                  refine append_l2 rfl rfl rfl rfl rfl (by simp) (Nat.zero_le _) ?_
                  conv => whnf
                  repeat' (first
                    | (refine append_same ?_; conv => whnf)
                    | (refine And.intro (And.intro (by kernel_rfl) (And.intro rfl (Nat.le_of_ble_eq_true rfl))) ?_; conv => whnf))
                  all_goals (first | (exfalso; omega) | contradiction | skip)
                  refine append_l3 rfl (by rw [List.length_map]) rfl rfl (by rw [hXl]; omega) (Nat.zero_le _) ?_
                  conv => whnf
                  repeat' (first
                    | (refine append_same ?_; conv => whnf))
                  all_goals (first | (exfalso; omega) | contradiction | skip)
                  refine next_to (i + 1) (show L.length - (i + 1) < L.length - i by omega) (by exact (by omega : i + 1 ≤ L.length)) ?_
                  refine to_close 5 0 4 _ _ 1 3 _ _ rfl rfl rfl (by decide) (Nat.zero_le _) (by decide) (by simp) ?_
                  refine to_force [false, false, false, false, false, true] ?_
                  conv => whnf
                  refine to_close 5 1 7 _ _ 1 3 _ _ rfl rfl rfl (by decide) (Nat.zero_le _) (by decide) (by simp) ?_
                  refine to_force [false, false, false, false, false, true] ?_
                  conv => whnf
                  refine to_close 5 2 8 _ _ 1 3 _ _ rfl rfl rfl (by decide) (Nat.zero_le _) (by decide) (by simp) ?_
                  refine to_force [false, false, false, false, false, true] ?_
                  conv => whnf
                  refine to_close 2 (Q ++ (L.take i).map (fun r => [(a : Int), ((a + 1 + k : Nat) : Int)] :: r)).length 5 _ _ 1 22 _ _ rfl ((List.getElem?_append_right (by rw [List.length_map]; omega)).trans (by rw [List.length_map, Nat.sub_self]; rfl)) rfl (by decide) (Nat.zero_le _) (by decide) (by simp) ?_
                  refine St.le.to ?_
                  conv => whnf
                  repeat' (first | exact le_unk3 (by omega) hlti | exact le_snoc3 (xs := [(a : Int), ((a + 1 + k : Nat) : Int)] :: [u, v]) hLs | exact len_snoc3 hLs | refine And.intro ?_ ?_)
                  repeat' (first
                    | exact trivial
                    | exact rfl
                    | exact pureL_ints _ _
                    | exact Or.inl (And.intro rfl rfl)
                    | exact pureL_ii _ _
                    | refine Or.inr ?_
                    | refine And.intro ?_ ?_
                    | exact Nat.le_of_ble_eq_true rfl
                    | exact int_eq (by assumption))
              · have hie : i = L.length := by omega
                subst hie
                conv => whnf
                repeat' (first
                  | (refine fun (_ : _ ≤ maxLen) => ?_; conv => whnf)
                  | (refine And.intro (by omega) ?_; conv => whnf)
                  | (refine append_same ?_; conv => whnf)
                  | (refine aIf_dec (fun _ => ?_) (fun _ => ?_) <;> conv => whnf))
                all_goals (first | (exfalso; omega) | contradiction | skip)
                refine next_to (k + 1) (show 4 - (k + 1) < 4 - k by omega) (by exact (by omega : a + 1 + (k + 1) ≤ 4)) ?_
                have hfin : ordF 3 (zs, fs, o) (prO 4 a ++ prI a (k + 1)) = Q ++ (L.take L.length).map (fun r => [(a : Int), ((a + 1 + k : Nat) : Int)] :: r) := by rw [hsn, ordF_snoc, hQ, hE, List.take_length]
                refine St.le.to ?_
                conv => whnf
                repeat' (first | exact le_cells (congrArg (List.map (own2 3 22)) hfin.symm) (pureL_o3 _ _ _) | exact congrArg List.length hfin | refine And.intro ?_ ?_)
                repeat' (first
                  | exact trivial
                  | exact rfl
                  | exact pureL_ints _ _
                  | exact Or.inl (And.intro rfl rfl)
                  | exact pureL_ii _ _
                  | refine Or.inr ?_
                  | refine And.intro ?_ ?_
                  | exact Nat.le_of_ble_eq_true rfl
                  | exact int_eq (by assumption))
          · have hE : ordE 3 (zs, fs, o) [(a : Int), ((a + 1 + k : Nat) : Int)] = [] := ordE_f fun h => hn3 h
            conv => whnf
            repeat' (first
              | (refine fun (_ : _ ≤ maxLen) => ?_; conv => whnf)
              | (refine aGet_in rfl ?_; conv => whnf)
              | (refine And.intro (by omega) ?_; conv => whnf)
              | (refine load_same ?_; conv => whnf)
              | (refine And.intro (Nat.le_of_ble_eq_true rfl) ?_; conv => whnf)
              | (refine callG_t ?_; conv => whnf)
              | (refine append_same ?_; conv => whnf)
              | (refine And.intro (pureL_ii _ _) ?_; conv => whnf)
              | (refine cut_ii rfl ?_; conv => whnf)
              | (refine l5Narrow_call (by assumption) ?_; conv => whnf)
              | (refine l5Merge_call (by assumption) ?_; conv => whnf)
              | (refine takeN_in ?_; conv => whnf)
              | (refine And.intro (pureL_ints _ _) ?_; conv => whnf)
              | (refine cut_ints ?_; conv => whnf)
              | (refine And.intro (by kernel_rfl) ?_; conv => whnf)
              | refine aIf_not ?_
              | (refine aIf_dec (fun _ => ?_) (fun _ => ?_) <;> conv => whnf))
            all_goals (first | (exfalso; omega) | contradiction | skip)
            refine next_to (k + 1) (show 4 - (k + 1) < 4 - k by omega) (by exact (by omega : a + 1 + (k + 1) ≤ 4)) ?_
            have hfin : ordF 3 (zs, fs, o) (prO 4 a ++ prI a (k + 1)) = ordF 3 (zs, fs, o) (prO 4 a ++ prI a k) := by rw [hsn, ordF_snoc, hE, List.append_nil]
            refine St.le.to ?_
            conv => whnf
            repeat' (first | exact le_cells (congrArg (List.map (own2 3 22)) hfin.symm) (pureL_o3 _ _ _) | exact congrArg List.length hfin | refine And.intro ?_ ?_)
            repeat' (first
              | exact trivial
              | exact rfl
              | exact pureL_ints _ _
              | exact Or.inl (And.intro rfl rfl)
              | exact pureL_ii _ _
              | refine Or.inr ?_
              | refine And.intro ?_ ?_
              | exact Nat.le_of_ble_eq_true rfl
              | exact int_eq (by assumption))
        · have hke : k = 4 - (a + 1) := by omega
          subst hke
          conv => whnf
          repeat' (first
            | (refine fun (_ : _ ≤ maxLen) => ?_; conv => whnf)
            | (refine aGet_in rfl ?_; conv => whnf)
            | (refine And.intro (by omega) ?_; conv => whnf)
            | (refine load_same ?_; conv => whnf)
            | (refine callG_t ?_; conv => whnf)
            | (refine append_same ?_; conv => whnf)
            | (refine takeN_in ?_; conv => whnf)
            | (refine aIf_dec (fun _ => ?_) (fun _ => ?_) <;> conv => whnf))
          all_goals (first | (exfalso; omega) | contradiction | skip)
          refine next_to (a + 1) (show 4 - (a + 1) < 4 - a by omega) (by exact (by omega : a + 1 ≤ 4)) ?_
          refine St.le.to ?_
          conv => whnf
          repeat' (first | exact le_cells rfl (pureL_o3 _ _ _) | refine And.intro ?_ ?_)
          repeat' (first
            | exact trivial
            | exact rfl
            | exact pureL_ints _ _
            | exact Or.inl (And.intro rfl rfl)
            | exact pureL_ii _ _
            | refine Or.inr ?_
            | refine And.intro ?_ ?_
            | exact Nat.le_of_ble_eq_true rfl
            | exact int_eq (by assumption))
    · have hae : a = 4 := by omega
      subst hae
      conv => whnf
      repeat' (first
        | (refine fun (_ : _ ≤ maxLen) => ?_; conv => whnf)
        | (refine aGet_in rfl ?_; conv => whnf)
        | (refine append_same ?_; conv => whnf)
        | (refine aIf_dec (fun _ => ?_) (fun _ => ?_) <;> conv => whnf))
      all_goals (first | (exfalso; omega) | contradiction | skip)
      exact retR rfl (protL_o3 _ _ _) (congrArg List.length hne).symm (congrArg (List.map (own2 3 22)) hne).symm
end Go.Proofs.Ytmgggbgejdkamaa
