/-
  Programs as they are printed, read again.
-/
import Derived.Test.YtiadbeglhnocoaaGreatDoorJb13
import Derived.Test.YtiadbeglhnocoaaGreatDoorJb35
namespace Go.Proofs.YtiadbeglhnocoaaGreatDoor
set_option linter.unusedVariables false
set_option linter.unusedSimpArgs false
open Go.RowKit

theorem rd_type (t : Int) (h : 1 ≤ t ∧ t ≤ 4) (s : PS) (M : List ETk) (hm : s.left.map er = tyT t ++ M) : ∃ L, L.map er = M ∧ typeP s = (t, s.to L) := by
  have : t = 1 ∨ t = 2 ∨ t = 3 ∨ t = 4 := by omega
  rcases this with rfl | rfl | rfl | rfl
  · have hm' : s.left.map er = kw [105, 110, 116] :: M := hm
    obtain ⟨f1, f3, L, f4, f5⟩ := front_kw hm'
    refine ⟨L, f5, ?_⟩
    unfold typeP
    rw [if_pos (isB_yes f3), f4]
  · have hm' : s.left.map er = kw [98, 111, 111, 108] :: M := hm
    obtain ⟨f1, f3, L, f4, f5⟩ := front_kw hm'
    refine ⟨L, f5, ?_⟩
    unfold typeP
    rw [if_neg (by rw [isB_no (by rw [f3]; decide)]; decide), if_pos (isB_yes f3), f4]
  · have hm' : s.left.map er = sg [91] :: (kw [105, 110, 116] :: (sg [93] :: M)) := hm
    obtain ⟨f1, f3, L, f4, f5⟩ := front_sg hm'
    obtain ⟨g1, g3, L2, g4, g5⟩ := front_kw (s := s.to L) f5
    obtain ⟨i1, i3, L3, i4, i5⟩ := front_sg (s := s.to L2) g5
    refine ⟨L3, i5, ?_⟩
    unfold typeP
    rw [if_neg (by rw [isB_no (by rw [f3]; decide)]; decide), if_neg (by rw [isB_no (by rw [f3]; decide)]; decide), need_yes f3, f4, if_pos (isB_yes g3), g4, show (s.to L).to L2 = s.to L2 from rfl, need_yes i3, i4]
    rfl
  · have hm' : s.left.map er = sg [91] :: (sg [91] :: (kw [105, 110, 116] :: (sg [93] :: (sg [93] :: M)))) := hm
    obtain ⟨f1, f3, L, f4, f5⟩ := front_sg hm'
    obtain ⟨g1, g3, L2, g4, g5⟩ := front_sg (s := s.to L) f5
    obtain ⟨i1, i3, L3, i4, i5⟩ := front_kw (s := s.to L2) g5
    obtain ⟨j1, j3, L4, j4, j5⟩ := front_sg (s := s.to L3) i5
    obtain ⟨k1, k3, L5, k4, k5⟩ := front_sg (s := s.to L4) j5
    refine ⟨L5, k5, ?_⟩
    unfold typeP
    rw [if_neg (by rw [isB_no (by rw [f3]; decide)]; decide), if_neg (by rw [isB_no (by rw [f3]; decide)]; decide), need_yes f3, f4, if_neg (by rw [isB_no (by rw [g3]; decide)]; decide)]
    simp only [PS.needs]
    rw [need_yes g3, g4, show (s.to L).to L2 = s.to L2 from rfl, need_yes i3, i4, show (s.to L2).to L3 = s.to L3 from rfl, need_yes j3, j4, show (s.to L3).to L4 = s.to L4 from rfl, need_yes k3, k4]
    rfl
theorem rd_param (p : Pa) (h : WFP p) (s : PS) (M : List ETk) (hm : s.left.map er = paT p ++ M) : ∃ L, L.map er = M ∧ paramP s = (⟨strB p.name.data.toList, p.type⟩, s.to L) := by
  have hm' : s.left.map er = nmt p.name.data.toList :: (sg [58] :: (tyT p.type ++ M)) := by rw [hm]; simp [paT]
  obtain ⟨f1, f3, L, f4, f5⟩ := front_nm hm'
  obtain ⟨g1, g3, L2, g4, g5⟩ := front_sg (s := s.to L) f5
  obtain ⟨L3, h1, h2⟩ := rd_type p.type h.2 (s.to L2) M g5
  refine ⟨L3, h1, ?_⟩
  unfold paramP
  rw [nameP_yes f1, f4, need_yes g3, g4, show (s.to L).to L2 = s.to L2 from rfl, h2, f3]
  rfl
theorem allB_snoc {α : Type} (f : α → α → Bool) : ∀ (l m : List α) (x y : α), allB f l m = true → f x y = true → allB f (l ++ [x]) (m ++ [y]) = true
  | [], [], x, y, _, h => by simp [allB, h]
  | [], b :: t, x, y, h, _ => by simp [allB] at h
  | a :: r, [], x, y, h, _ => by simp [allB] at h
  | a :: r, b :: t, x, y, h, h2 => by
    simp only [allB, Bool.and_eq_true] at h
    simp only [List.cons_append, allB, Bool.and_eq_true]
    exact ⟨h.1, allB_snoc f r t x y h.2 h2⟩
theorem rd_args : ∀ (ps : List Pa), ps ≠ [] → (∀ p ∈ ps, WFP p) → ∀ (pre : List Pa) (s : PS) (M : List ETk) (k : Nat), pre.length + ps.length ≤ 16 → s.left.map er = jt (ps.map paT) ++ (sg [41] :: M) → ps.length ≤ k → ∃ l' L, L.map er = sg [41] :: M ∧ allB sameP ps l' = true ∧ argsK k pre s = some (pre ++ l', s.to L)
  | [], h, _ => absurd rfl h
  | [p], _, hw => fun pre s M k hl hm hk => by
    obtain ⟨k, rfl⟩ : ∃ j, k = j + 1 := ⟨k - 1, by simp at hk; omega⟩
    have hm' : s.left.map er = paT p ++ (sg [41] :: M) := by rw [hm]; simp [jt]
    obtain ⟨L, h1, h2⟩ := rd_param p (hw p (by simp)) s _ hm'
    have ha : argP pre s = (pre ++ [⟨strB p.name.data.toList, p.type⟩], s.to L) := by
      unfold argP
      simp at hl
      rw [if_neg (by omega)]
      dsimp only
      rw [h2]
    obtain ⟨g1, g3, -⟩ := front_sg (s := s.to L) h1
    refine ⟨[⟨strB p.name.data.toList, p.type⟩], L, h1, by simp [allB, sameP, bytesB, strB_list], ?_⟩
    rw [argsK, ha, if_neg (by rw [isB_no (by rw [g3]; decide)]; decide)]
  | p :: q :: t, _, hw => fun pre s M k hl hm hk => by
    obtain ⟨k, rfl⟩ : ∃ j, k = j + 1 := ⟨k - 1, by simp at hk; omega⟩
    have hm' : s.left.map er = paT p ++ (sg [44] :: (jt ((q :: t).map paT) ++ (sg [41] :: M))) := by rw [hm]; simp [jt]
    obtain ⟨L, h1, h2⟩ := rd_param p (hw p (by simp)) s _ hm'
    have ha : argP pre s = (pre ++ [⟨strB p.name.data.toList, p.type⟩], s.to L) := by
      unfold argP
      simp at hl
      rw [if_neg (by omega)]
      dsimp only
      rw [h2]
    obtain ⟨g1, g3, L2, g4, g5⟩ := front_sg (s := s.to L) h1
    obtain ⟨l', L3, e1, e2, e3⟩ := rd_args (q :: t) (by simp) (fun x hx => hw x (by simp [List.mem_cons.mp hx])) (pre ++ [⟨strB p.name.data.toList, p.type⟩]) (s.to L2) M k (by simp at hl ⊢; omega) g5 (by simp at hk ⊢; omega)
    refine ⟨⟨strB p.name.data.toList, p.type⟩ :: l', L3, e1, by simp only [allB, Bool.and_eq_true]; exact ⟨by simp [sameP, bytesB, strB_list], e2⟩, ?_⟩
    rw [argsK, ha, if_pos (isB_yes g3)]
    simp only
    rw [g4, show (s.to L).to L2 = s.to L2 from rfl, e3]
    simp
    rfl
theorem pa_first (p : Pa) : ∃ m, paT p = nmt p.name.data.toList :: m := ⟨_, rfl⟩
theorem rd_params (ps : List Pa) (hw : ∀ p ∈ ps, WFP p) (hl : ps.length ≤ 16) (s : PS) (M : List ETk) (k : Nat) (hn : s.nest = 0) (hm : s.left.map er = sg [40] :: (jt (ps.map paT) ++ (sg [41] :: M))) (hk : ps.length ≤ k) : ∃ l' L, L.map er = M ∧ allB sameP ps l' = true ∧ paramsK k s = some (l', s.to L) := by
  obtain ⟨f1, f3, L1, f4, f5⟩ := front_sg hm
  have hen1 : (s.to L1).enter = ({ s with left := L1, nest := s.nest + 1 } : PS) := by
    rw [enter_yes (by show s.nest + 1 ≤ 1024; omega)]
    rfl
  obtain ⟨U, hU⟩ : ∃ U : PS, U = { s with left := L1, nest := s.nest + 1 } := ⟨_, rfl⟩
  have hUl : U.left.map er = jt (ps.map paT) ++ (sg [41] :: M) := by rw [hU]; exact f5
  have hout : ∀ L, (U.to L).leave = s.to L := fun L => by
    rw [hU]
    exact in_out s L
  unfold paramsK
  rw [need_yes f3, f4, hen1, ← hU]
  cases ps with
  | nil =>
    have hUl' : U.left.map er = sg [41] :: M := hUl
    obtain ⟨g1, g3, L2, g4, g5⟩ := front_sg hUl'
    refine ⟨[], L2, g5, rfl, ?_⟩
    rw [if_pos (isB_yes g3), need_yes g3, g4, hout]
  | cons p t =>
    obtain ⟨m, hm1⟩ := pa_first p
    have hfst : ∃ m', jt ((p :: t).map paT) ++ (sg [41] :: M) = nmt p.name.data.toList :: m' := by
      cases t with
      | nil => exact ⟨_, by simp [jt, hm1]; rfl⟩
      | cons q t => exact ⟨_, by simp [jt, hm1]; rfl⟩
    obtain ⟨m', hm2⟩ := hfst
    have hUl2 := hUl
    rw [hm2] at hUl2
    obtain ⟨g1, g3, -⟩ := front_nm hUl2
    have hnm := (hw p (by simp)).1
    obtain ⟨l', L2, e1, e2, e3⟩ := rd_args (p :: t) (by simp) hw [] U M k (by simpa using hl) hUl hk
    obtain ⟨q1, q3, L3, q4, q5⟩ := front_sg (s := U.to L2) e1
    refine ⟨l', L3, q5, e2, ?_⟩
    rw [if_neg (by rw [isB_no (by rw [g3]; exact nm_ne hnm (Or.inr ⟨_, _, rfl, by decide⟩))]; decide), e3]
    simp only [List.nil_append]
    rw [need_yes q3, q4, to_to, hout]
theorem rd_fn (f : Fu) (h : WFF f) (s : PS) (M : List ETk) (k : Nat) (hd : s.deep = 0) (hn : s.nest = 0) (hm : s.left.map er = tkF f ++ M) (hk : 10 * (tkF f).length + 10 ≤ k) : ∃ f' L, L.map er = M ∧ sameF f f' = true ∧ fnK k s = some (f', s.to L) := by
  have hm' : s.left.map er = kw [102, 110] :: (nmt f.name.data.toList :: (sg [40] :: (jt (f.params.map paT) ++ (sg [41] :: (resT f.ret ++ (sg [123] :: (tkSs f.body ++ (sg [125] :: M)))))))) := by rw [hm]; simp [tkF]
  have hlen : (tkF f).length = (jt (f.params.map paT)).length + (resT f.ret).length + (tkSs f.body).length + 6 := by simp [tkF]; omega
  rw [hlen] at hk
  obtain ⟨f1, f3, L1, f4, f5⟩ := front_kw hm'
  obtain ⟨g1, g3, L2, g4, g5⟩ := front_nm (s := s.to L1) f5
  obtain ⟨l', L3, e1, e2, e3⟩ := rd_params f.params h.pars h.few (s.to L2) _ k hn g5 (by have := h.few; omega)
  have hres : ∃ L4, L4.map er = sg [123] :: (tkSs f.body ++ (sg [125] :: M)) ∧ (if (s.to L3).isB ([58] : List UInt8) = true then typeP (s.to L3).next else (0, s.to L3)) = (f.ret, s.to L4) := by
    unfold resT at e1
    split at e1
    · rename_i h0
      have e1' : L3.map er = sg [123] :: (tkSs f.body ++ (sg [125] :: M)) := e1
      obtain ⟨i1, i3, -⟩ := front_sg (s := s.to L3) e1'
      exact ⟨L3, e1', by rw [if_neg (by rw [isB_no (by rw [i3]; decide)]; decide), h0]⟩
    · rename_i h0
      have e1' : L3.map er = sg [58] :: (tyT f.ret ++ (sg [123] :: (tkSs f.body ++ (sg [125] :: M)))) := e1
      obtain ⟨i1, i3, L4, i4, i5⟩ := front_sg (s := s.to L3) e1'
      have hr := h.ret
      obtain ⟨L5, j1, j2⟩ := rd_type f.ret ⟨by omega, hr.2⟩ (s.to L4) _ i5
      exact ⟨L5, j1, by rw [if_pos (isB_yes i3), i4, show (s.to L3).to L4 = s.to L4 from rfl, j2]; rfl⟩
  obtain ⟨L4, r1, r2⟩ := hres
  obtain ⟨b', L5, o1, o2, o3⟩ := rd_block f.body (rdSts_all f.body) 0 (s.to L4) M k h.body ⟨hd, hn, Int.le_refl _⟩ (by decide) r1 (by omega)
  refine ⟨⟨strB f.name.data.toList, s.now.at_, l', f.ret, b', 0⟩, L5, o1, ?_, ?_⟩
  · unfold sameF
    simp [bytesB, strB_list, e2, o2]
  · unfold fnK
    simp only
    rw [need_yes f3, f4, nameP_yes g1, g4, show (s.to L1).to L2 = s.to L2 from rfl, e3]
    simp only
    rw [show (s.to L2).to L3 = s.to L3 from rfl, r2]
    simp only
    rw [o3, g3]
    rfl
theorem rd_prog : ∀ (fs : List Fu), (∀ f ∈ fs, WFF f) → ∀ (pre : List Fu) (s : PS) (k : Nat), pre.length + fs.length ≤ 256 → s.deep = 0 → s.nest = 0 → s.left.map er = tkT fs ++ [(0, 0, [])] → 11 * (tkT fs).length + 20 ≤ k → ∃ l' L, allB sameF fs l' = true ∧ progK k pre s = some (pre ++ l', s.to L)
  | [], hw, pre, s, k, hl, hd, hn, hm, hk => by
    obtain ⟨k, rfl⟩ : ∃ j, k = j + 1 := ⟨k - 1, by omega⟩
    have hk0 : s.now.kind = 0 := by
      unfold PS.now
      cases hs : s.left with
      | nil => rfl
      | cons t r =>
        rw [hs] at hm
        simp [tkT] at hm
        have := hm.1
        unfold er at this
        simp at this
        exact this.1
    refine ⟨[], s.left, rfl, ?_⟩
    rw [progK, if_pos hk0]
    simp
    rfl
  | f :: t, hw, pre, s, k, hl, hd, hn, hm, hk => by
    obtain ⟨k, rfl⟩ : ∃ j, k = j + 1 := ⟨k - 1, by omega⟩
    simp only [tkT] at hm hk
    rw [List.length_append] at hk
    have hm' : s.left.map er = tkF f ++ (tkT t ++ [(0, 0, [])]) := by rw [hm]; simp
    have hf1 : 1 ≤ (tkF f).length := by simp [tkF]
    obtain ⟨f', L, h1, h2, h3⟩ := rd_fn f (hw f (by simp)) s _ k hd hn hm' (by omega)
    obtain ⟨l', L2, g1, g2⟩ := rd_prog t (fun x hx => hw x (by simp [hx])) (pre ++ [f']) (s.to L) k (by simp at hl ⊢; omega) hd hn h1 (by omega)
    have hk0 : ¬ s.now.kind = 0 := by
      obtain ⟨m2, hm2⟩ : ∃ m2, s.left.map er = kw [102, 110] :: m2 := ⟨_, by rw [hm']; rfl⟩
      obtain ⟨i1, -⟩ := front_kw hm2
      rw [i1]
      decide
    refine ⟨f' :: l', L2, by simp only [allB, Bool.and_eq_true]; exact ⟨h2, g1⟩, ?_⟩
    rw [progK, if_neg hk0, if_neg (by simp at hl; omega), h3]
    simp only
    rw [g2]
    simp
    rfl
/-! What is printed of programs that say the same is the same. -/
mutual
theorem pr_same : ∀ (a b : Ex), sameE a b = true → prE b = prE a
  | .mk k x t o n s l, .mk k' x' t' o' n' s' l', h => by
    unfold sameE at h
    simp only [Bool.and_eq_true, beq_iff_eq, Bool.or_eq_true, Bool.not_eq_true', decide_eq_false_iff_not, bytesB] at h
    obtain ⟨⟨⟨⟨h1, h2⟩, h3⟩, h4⟩, h5⟩ := h
    have hk := prs_same l l' h5
    subst h1
    subst h2
    simp only [prE]
    rw [hk, ← h3]
    by_cases hc : k = 1 ∨ k = 2
    · rcases h4 with h4 | h4
      · exact absurd hc h4
      · rw [h4]
    · unfold prK
      rw [if_neg (fun e => hc (Or.inl e)), if_neg (fun e => hc (Or.inr e)), if_neg (fun e => hc (Or.inl e)), if_neg (fun e => hc (Or.inr e))]
theorem prs_same : ∀ (a b : List Ex), sameEs a b = true → prEs b = prEs a
  | [], [], _ => rfl
  | [], _ :: _, h => by simp [sameEs] at h
  | _ :: _, [], h => by simp [sameEs] at h
  | x :: r, y :: t, h => by
    unfold sameEs at h
    rw [Bool.and_eq_true] at h
    simp only [prEs]
    rw [pr_same x y h.1, prs_same r t h.2]
end
theorem sameEs_get : ∀ (a b : List Ex), sameEs a b = true → ∀ i, kidP b i = kidP a i ∧ (b.isEmpty = a.isEmpty)
  | [], [], _, i => ⟨rfl, rfl⟩
  | [], _ :: _, h, _ => by simp [sameEs] at h
  | _ :: _, [], h, _ => by simp [sameEs] at h
  | x :: r, y :: t, h, i => by
    unfold sameEs at h
    rw [Bool.and_eq_true] at h
    refine ⟨?_, rfl⟩
    cases i with
    | zero => exact pr_same x y h.1
    | succ i =>
      have := (sameEs_get r t h.2 i).1
      unfold kidP at this ⊢
      simpa using this
mutual
theorem prS_same : ∀ (a b : St), sameS a b = true → ∀ d, prS d b = prS d a
  | .mk k x n s p l bd e, .mk k' x' n' s' p' l' bd' e', h, d => by
    unfold sameS at h
    simp only [Bool.and_eq_true, beq_iff_eq, bytesB] at h
    obtain ⟨⟨⟨⟨⟨h1, h2⟩, h3⟩, h4⟩, h5⟩, h6⟩ := h
    have q0 := sameEs_get l l' h4
    have q1 := prSs_same bd bd' h5 (d + 1)
    have q2 := prSs_same e e' h6 (d + 1)
    have q3 : e'.isEmpty = e.isEmpty := by
      cases e <;> cases e' <;> simp [sameSs] at h6 ⊢
    subst h1
    subst h3
    simp only [prS]
    rw [(q0 0).1, (q0 1).1, (q0 0).2, q1, q2, q3, ← h2]
theorem prSs_same : ∀ (a b : List St), sameSs a b = true → ∀ d, prSs d b = prSs d a
  | [], [], _, d => rfl
  | [], _ :: _, h, _ => by simp [sameSs] at h
  | _ :: _, [], h, _ => by simp [sameSs] at h
  | x :: r, y :: t, h, d => by
    unfold sameSs at h
    rw [Bool.and_eq_true] at h
    simp only [prSs]
    rw [prS_same x y h.1 d, prSs_same r t h.2 d]
end
theorem pas_same : ∀ (a b : List Pa), allB sameP a b = true → b.map paB = a.map paB
  | [], [], _ => rfl
  | [], _ :: _, h => by simp [allB] at h
  | _ :: _, [], h => by simp [allB] at h
  | x :: r, y :: t, h => by
    simp only [allB, Bool.and_eq_true, sameP, bytesB, beq_iff_eq] at h
    simp only [List.map_cons]
    rw [pas_same r t h.2]
    unfold paB
    rw [h.1.1, h.1.2]
theorem prT_same : ∀ (a b : List Fu), allB sameF a b = true → prT b = prT a
  | [], [], _ => rfl
  | [], _ :: _, h => by simp [allB] at h
  | _ :: _, [], h => by simp [allB] at h
  | x :: r, y :: t, h => by
    simp only [allB, Bool.and_eq_true, sameF, bytesB, beq_iff_eq] at h
    obtain ⟨⟨⟨⟨h1, h2⟩, h3⟩, h4⟩, h5⟩ := h
    simp only [prT]
    rw [prT_same r t h5]
    unfold prF
    rw [pas_same _ _ h3, prSs_same _ _ h4 1, h1, h2]
/-! The words of a text. -/
theorem word_ok {k : Nat} {l : List UInt8} {t : Tk} (h : wordT k l = some t) : TkOk t := by
  obtain ⟨w1, w2, w3, w4⟩ := word_has h
  rcases l with _ | ⟨c, r⟩
  · simp [wordT] at h
  · rw [wordT] at h
    split at h
    · rename_i hc
      obtain rfl := Option.some.inj h
      refine ⟨fun hk => ?_, fun hk => ?_, fun hk => ?_, fun _ => w2⟩
      · have hkp : keptB (nameT k (c :: r)).bytes = false := by
          unfold nameT at hk ⊢
          simp only at hk ⊢
          split at hk
          · exact absurd hk (by decide)
          · rename_i hb
            simpa using hb
        have hall : ∀ x ∈ (nameT k (c :: r)).bytes, nameB (x.toNat : Int) = true := take_all nameB (c :: r)
        cases hb : (nameT k (c :: r)).bytes with
        | nil => rw [hb] at w2; simp at w2
        | cons c' r' =>
          rw [hb] at w4 hall hkp
          have : c' = c := by
            have e := congrArg List.head? w4
            simp at e
            exact e
          subst this
          exact ⟨c', r', rfl, hc, hall, hkp⟩
      · unfold nameT at hk; simp only at hk; split at hk <;> exact absurd hk (by decide)
      · unfold nameT at hk; simp only at hk; split at hk <;> exact absurd hk (by decide)
    · split at h
      · unfold numT at h
        split at h
        · obtain rfl := Option.some.inj h
          exact ⟨fun hk => absurd hk (by simp), fun _ => wrap_in _, fun hk => absurd hk (by simp), fun _ => w2⟩
        · cases h
      · unfold signT at h
        split at h
        · cases h
        · obtain rfl := Option.some.inj h
          exact ⟨fun hk => absurd hk (by simp), fun hk => absurd hk (by simp), fun hk => absurd hk (by simp), fun _ => w2⟩
theorem words_ok {L : List UInt8} {R : List Tk} {O : Option Nat} (h : lexS L = (R, O)) (n : Nat) : (∀ t ∈ R ++ [endT n], TkOk t) ∧ bL (R ++ [endT n]) ≤ 2 * L.length ∧ R.length ≤ 2 * L.length := by
  obtain ⟨h1, h2⟩ := lexS_words h
  refine ⟨fun t ht => ?_, ?_⟩
  · rcases List.mem_append.mp ht with ht | ht
    · obtain ⟨⟨k, l, hw⟩, _⟩ := h1 t ht
      exact word_ok hw
    · rw [List.mem_singleton] at ht
      subst ht
      exact ⟨fun hk => absurd hk (by simp [endT]), fun hk => absurd hk (by simp [endT]), fun _ => rfl, fun hk => absurd rfl hk⟩
  · have hpre : ∀ l : List Tk, (preL l).length = bL l + l.length := by
      intro l
      induction l with
      | nil => rfl
      | cons t r ih =>
        simp only [preL, List.flatMap_cons, List.length_append] at ih ⊢
        simp only [bL, List.map_cons, List.sum_cons, List.length_cons, List.length_nil] at ih ⊢
        omega
    have e := hpre R
    have e2 : bL (R ++ [endT n]) = bL R := by simp [bL, endT]
    rw [e2]
    omega
/-- A program that was read, printed and read again. -/
theorem round_trip (s : ByteArray) (hs : s.size ≤ 3000) (R : List Tk) (hL : lexS s.data.toList = (R, none)) : ∃ l s', progK 100000 [] (begin0 s R) = some (l, s') ∧ (s'.fk = 0 → (∀ f ∈ l, WFF f) ∧ l.length ≤ 256 ∧ (prT l).length ≤ 960000 ∧
    ∃ R2, lexS (prT l) = (R2, none) ∧ ∃ l2 z, progK 25000000 [] (begin0 ⟨(prT l).toArray⟩ R2) = some (l2, z) ∧ z.fk = 0 ∧ allB sameF l l2 = true ∧ prT l2 = prT l ∧ (∀ f ∈ l2, WFF f) ∧ l2.length ≤ 256) := by
  have hsz : s.data.toList.length = s.size := by rw [Array.length_toList]; rfl
  obtain ⟨w1, w2, w3⟩ := words_ok hL s.size
  have hTk : TkS (begin0 s R) := w1
  have hWf : Wf (begin0 s R) := fun t ht hk => (w1 t ht).none hk
  have hlen : (begin0 s R).left.length = R.length + 1 := by simp [begin0]
  obtain ⟨⟨l, s'⟩, hp⟩ := prog_suf _ 100000 [] (begin0 s R) (Nat.le_refl _) (by rw [hlen]; omega) hWf
  refine ⟨l, s', hp, fun h0 => ?_⟩
  obtain ⟨_, m, e1, e2, e3, e4⟩ := prog_out _ _ _ _ hTk rfl hp h0
  simp only [List.nil_append] at e1
  subst e1
  have hb : (begin0 s R).b ≤ 6000 := by
    show bL (R ++ [endT s.size]) ≤ 6000
    omega
  have hpr : (prT l).length ≤ 960000 := by omega
  have hl256 : l.length ≤ 256 := e3 (by simp)
  obtain ⟨R2, hR2, hR2m⟩ := lx_prog l e2 0
  rw [← lexS_U] at hR2
  obtain ⟨v1, v2, v3⟩ := words_ok hR2 (prT l).length
  have htk : (tkT l).length = R2.length := by rw [← hR2m]; simp
  have hend : (begin0 (⟨(prT l).toArray⟩ : ByteArray) R2).left.map er = tkT l ++ [(0, 0, [])] := by
    unfold begin0
    simp only [List.map_append, hR2m]
    rfl
  obtain ⟨l2, L2, g1, g2⟩ := rd_prog l e2 [] (begin0 ⟨(prT l).toArray⟩ R2) 25000000 (by simpa using hl256) rfl rfl hend (by omega)
  simp only [List.nil_append] at g2
  have hsz2 : (⟨(prT l).toArray⟩ : ByteArray).size = (prT l).length := by show (prT l).toArray.size = _; simp
  have hTk2 : TkS (begin0 (⟨(prT l).toArray⟩ : ByteArray) R2) := by
    show ∀ t ∈ R2 ++ [endT (⟨(prT l).toArray⟩ : ByteArray).size], TkOk t
    rw [hsz2]
    exact v1
  obtain ⟨_, m2, q1, q2, q3, q4⟩ := prog_out _ _ _ _ hTk2 rfl g2 rfl
  simp only [List.nil_append] at q1
  subst q1
  exact ⟨e2, hl256, hpr, R2, hR2, l2, _, g2, rfl, g1, prT_same l l2 g1, q2, q3 (by simp)⟩
end Go.Proofs.YtiadbeglhnocoaaGreatDoor
