/-
  A word and numbers are laid down.
-/
import Derived.Test.YtglobeajmdieaaaDoorIrShelf
import Derived.Test.YtglobeajmdieaaaDoorIrG
import Derived.Lib.AppendStr
import Derived.Lib.OthersKept
import Derived.Lib.ItoaLen
namespace Go.Proofs.YtglobeajmdieaaaDoor
open Go.RowKit
set_option linter.unusedVariables false
set_option linter.unusedSimpArgs false

def sayP (word : List UInt8) (l : List Int) : List UInt8 := word ++ l.flatMap (fun x => 32 :: Lib.itoa x)
theorem sayP_succ (word : List UInt8) (l : List Int) (i : Nat) (hi : i < l.length) : sayP word (l.take (i + 1)) = sayP word (l.take i) ++ (32 :: Lib.itoa l[i]) := by
  unfold sayP
  rw [List.take_succ_eq_append_getElem hi, List.flatMap_append]
  simp
def InR (x : Int) : Prop := -9223372036854775808 ≤ x ∧ x ≤ 9223372036854775807
theorem say_len (word : List UInt8) (l : List Int) (h : ∀ x ∈ l, InR x) : (sayP word l).length ≤ word.length + 22 * l.length := by
  unfold sayP
  rw [List.length_append]
  have : (l.flatMap (fun x => 32 :: Lib.itoa x)).length ≤ 22 * l.length := by
    induction l with
    | nil => simp
    | cons a l ih =>
      have h1 := ih (fun x hx => h x (List.mem_cons_of_mem _ hx))
      have h2 := Lib.itoa_length_le a (h a (by simp)).1 (h a (by simp)).2
      simp only [List.flatMap_cons, List.length_append, List.length_cons]
      omega
  omega
/-- Numbers as they lie, in a block that is none of bytes. -/
def RdN (B : Nat) (w : World) (v : Value) (l : List Int) : Prop := ∃ A c, v = .slice A l.length c ∧ (0 < l.length → ∃ b o ob, A = some ⟨b, o, none⟩ ∧ w.heap[b]? = some ob ∧ (b < B ∨ ∀ c fz, ob ≠ .cells c 5 fz) ∧ ∀ j x, l[j]? = some x → w.cell? ⟨b, o + j, none⟩ = some (.int .i64 x))
theorem RdN.keep {B : Nat} {w w' : World} {v : Value} {l : List Int} (h : RdN B w v l) (hk : Below B w w') (ho : Lib.OthersKept 5 none w w') : RdN B w' v l := by
  obtain ⟨A, c, hv, hr⟩ := h
  refine ⟨A, c, hv, fun hp => ?_⟩
  obtain ⟨b, o, ob, hA, hb, hn, hc⟩ := hr hp
  have hb' : w'.heap[b]? = some ob := hn.elim (fun hn => (hk.block b hn).trans hb) (fun hn => ho b ob hb (by simp) hn)
  exact ⟨b, o, ob, hA, hb', hn, fun j x hx => (World.cell?_of_block (a := ⟨b, o + j, none⟩) (hb'.trans hb.symm)).trans (hc j x hx)⟩
theorem infoByte : (Tryd.prog.info? 5).map (fun i => (i.zero, i.size, i.bytes)) = some (some (.int .u8 0), 1, 1) := by kernel_rfl
theorem bytes_row {w : World} {B n : Nat} {v : Value} {xs : List Value} (h : w.ownsRow B 5 1 v n xs) : ∀ g, v.ownBlock = some g → ∃ c fz, w.heap[g]? = some (.cells c 5 fz) := by
  intro g hg
  rcases h.2 with ⟨rfl, _⟩ | ⟨b, cap, cur, rfl, _, hh, _⟩
  · simp [Value.ownBlock] at hg
  · simp [Value.ownBlock] at hg
    subst hg
    exact ⟨_, _, hh⟩
theorem kept_below {w w' : World} {T : TypeId} (hb : Below w.heap.size w w') : Lib.OthersKept T none w w' := fun k o hk _ _ => (hb.block k (heap_in hk)).trans hk

theorem own_up' {w w' : World} {base : Nat} {T : TypeId} {z n : Nat} {v : Value} {xs : List Value} (h : w.ownsRow base T z v n xs) (hb : Below w.heap.size w w') : w'.ownsRow base T z v n xs := own_up h hb

set_option maxRecDepth 100000 in
set_option maxHeartbeats 8000000 in
theorem say_any (B n : Nat) (sv v : Value) (xs : List Value) (word : ByteArray) (l : List Int) (w : World) (hown : w.ownsRow B 5 1 sv n xs) (hBw : B ≤ w.heap.size) (hl : ∀ x ∈ l, InR x) (hr : RdN B w v l)
    (hlim : n + word.size + 22 * l.length + 22 ≤ 140737488355328) (htab : Lib.TabBelow Tryd.prog B w "internal/strconv.uint64pow10" .u64 Lib.pow10Tab) :
    Calls Tryd.prog 11 #[sv, .string word, v] w fun e w' => ∃ v', e = .returned v' ∧ w'.ownsRow B 5 1 v' (n + (sayP word.data.toList l).length) (xs ++ Lib.byteCells (sayP word.data.toList l)) ∧ Below B w w' ∧ Lib.OthersKept 5 none w w' := by
  obtain ⟨VA, Vc, rfl, hrv⟩ := hr
  have Hrv : Hid (RdN B w (.slice VA l.length Vc) l) := Lib.hid ⟨VA, Vc, rfl, hrv⟩
  obtain ⟨m, hm⟩ : ∃ m, m = l.length := ⟨_, rfl⟩
  have Hm := Lib.hid hm
  rw [← hm] at hlim Hrv ⊢
  obtain ⟨i0, hi0, hz0, hz1, hz2⟩ := info_parts infoByte
  have Hi := Lib.hid hi0
  have Hz0 := Lib.hid hz0
  have Hz1 := Lib.hid hz1
  have Hz2 := Lib.hid hz2
  have Hown := Lib.hid hown
  have Hl := Lib.hid hl
  have Htab := Lib.hid htab
  clear hm hi0 hz0 hz1 hz2 hown hl htab hrv
  go_enter Tryd.func11, Tryd.ntmps11
  go_wp2_with (at_builtin; refine Lib.wpList_append_own_string w rfl (.tmp 9) (.tmp 10) 37 9 rfl B 5 i0 Tryd.underlying37 Tryd.underlying9 Hi.out Hz0.out Hz1.out Hz2.out sv n xs rfl Hown.out word rfl (by unfold maxLen; omega) (by omega) hBw ?_)
  intro v1 w1 hown1 hgrow hnil
  have hb1 : Below B w w1 := (Below.refl B w).grown hgrow hBw (fun g' e => (Hown.out.lt g' e).1)
  have ho1 : Lib.OthersKept 5 none w w1 := (Lib.OthersKept.refl _ _ _).grown hgrow (bytes_row Hown.out)
  have hs0 : sayP word.data.toList (l.take 0) = word.data.toList := by simp [sayP]
  have hsz0 : word.data.toList.length = word.size := by rw [Array.length_toList]; rfl
  have hO0 : w1.ownsRow B 5 1 v1 (n + (sayP word.data.toList (l.take 0)).length) (xs ++ Lib.byteCells (sayP word.data.toList (l.take 0))) := by rw [hs0, hsz0]; exact hown1
  have HO0 := Lib.hid hO0
  have Hb1 := Lib.hid hb1
  have Ho1 := Lib.hid ho1
  have Hsz0 := Lib.hid hsz0
  clear hown1 hgrow hnil hb1 ho1 hs0 hO0 hsz0
  go_upto_region 3 with fail
  go_loopw [0, 14] (fun u0 u14 wr => ∃ (i : Nat) (x : Value), i ≤ m ∧ u14 = .int .i64 i ∧ u0 = x ∧ Hid (wr.ownsRow B 5 1 x (n + (sayP word.data.toList (l.take i)).length) (xs ++ Lib.byteCells (sayP word.data.toList (l.take i)))) ∧ Hid (Below B w wr) ∧ Hid (Lib.OthersKept 5 none w wr)) (fun _ u14 _ => m - (intOf u14).toNat)
  case atStart => exact ⟨0, _, Nat.zero_le _, rfl, rfl, HO0, Hb1, Ho1⟩
  case round =>
    clear HO0 Hb1 Ho1
    obtain ⟨i, x, hi, rfl, rfl, HO, HB, HK⟩ := hrel
    by_cases hlt : i < m
    · have hil : i < l.length := by rw [← Hm.out]; exact hlt
      obtain ⟨A, c, hv, hr⟩ := Hrv.out.keep HB.out HK.out
      obtain ⟨b, o, ob, hA, hob, hobn, hc⟩ := hr (by rw [← Hm.out]; omega)
      have hva : VA = some ⟨b, o, none⟩ := by injection hv with e1; rw [e1, hA]
      subst hva
      have hcx := hc i l[i] (List.getElem?_eq_getElem hil)
      have hS := sayP_succ word.data.toList l i hil
      have hlen := say_len word.data.toList (l.take i) (fun y hy => Hl.out y (List.mem_of_mem_take hy))
      have htl : (l.take i).length ≤ i := by rw [List.length_take]; omega
      have hin := Hl.out l[i] (List.getElem_mem hil)
      obtain ⟨y, hy⟩ : ∃ y, y = l[i] := ⟨_, rfl⟩
      rw [← hy] at hcx hS hin
      obtain ⟨k, hk⟩ : ∃ k, k = n + (sayP word.data.toList (l.take i)).length := ⟨_, rfl⟩
      have hkl : k + 22 + 22 ≤ 140737488355328 + 22 := by rw [hk]; have := Hsz0.out; omega
      have Hk := Lib.hid hk
      rw [← hk] at HO
      have hbw : B ≤ wr.heap.size := Nat.le_trans hBw HB.out.size
      obtain ⟨A2, hA2, hbA, hzA, h0A⟩ := r_one_al wr #[.int .u8 32] 5
      have HOW := Lib.hid (own_up' HO.out hbA)
      have HNW := Lib.hid (World.news_of_block h0A)
      have HOn : Hid (∀ u ∈ ([.int .u8 32] : List Value), u.oneCell' = true) := Lib.hid (by intro u hu; simp at hu; subst hu; rfl)
      have hsz2 : B ≤ A2.heap.size := by omega
      have hBA : Below B w A2 := HB.out.trans (hbA.mono hbw)
      have hKA : Lib.OthersKept 5 none w A2 := HK.out.trans (kept_below hbA)
      have HS := Lib.hid hS
      have Hin := Lib.hid hin
      have HBA := Lib.hid hBA
      have HKA := Lib.hid hKA
      have HOA := Lib.hid (own_up' HO.out hbA)
      have Hsz2 := Lib.hid hsz2
      rw [hA2] at HOW HNW hsz2
      have HA2 := Lib.hid hA2
      clear hv hr hob hobn hc hS hlen htl hin hy hk hA2 hbA hzA h0A hBA hKA hA
      go_wp2_with (at_builtin; refine wpList_append_lies _ rfl (.tmp 18) (.tmp 19) 37 rfl B 5 i0 (.int .u8 0) 1 1 Tryd.underlying37 Hi.out Hz0.out Hz1.out Hz2.out rfl (by decide) u0 k _ rfl HOW.out ⟨wr.heap.size, 0, none⟩ 1 1 [.int .u8 32] rfl rfl HNW.out HOn.out (by decide) (by unfold maxLen; omega) (by omega) hsz2 _ rfl ?_)
      intro gp cp w2 hown2 hgrow hat hlt2
      rw [← HA2.out] at hgrow
      clear HOW HNW hsz2
      have hB2 : Below B w w2 := HBA.out.grown hgrow Hsz2.out (fun g' e => (HOA.out.lt g' e).1)
      have hK2 : Lib.OthersKept 5 none w w2 := HKA.out.grown hgrow (bytes_row HOA.out)
      have hAI := strconv_AppendInt_10 B (k + 1) y Hin.out.1 Hin.out.2 (.slice (some ⟨gp, 0, none⟩) (k + 1) cp) _ w2 hown2 (Nat.le_trans hBw hB2.size) (by omega) (Htab.out.on hB2)
      have HB2 := Lib.hid hB2
      have HK2 := Lib.hid hK2
      clear hown2 hgrow hat hlt2 hB2 hK2
      go_wp2_with (go_at_call 21; refine hAI.mono ?_; rintro e w3 ⟨v3, rfl, ho3, hb3, hk3⟩; have Ho3 := Lib.hid ho3; have Hb3 := Lib.hid (HB2.out.trans hb3); have Hk3 := Lib.hid (HK2.out.trans hk3); clear ho3 hb3 hk3 hAI)
      go_roundw
      case rel => exact ⟨i + 1, _, by omega, by go_num, rfl, Lib.hid (by
        have e1 : n + (sayP word.data.toList (l.take (i + 1))).length = k + 1 + (Lib.itoa y).length := by rw [HS.out, Hk.out, List.length_append, List.length_cons]; omega
        have e2 : xs ++ Lib.byteCells (sayP word.data.toList (l.take (i + 1))) = xs ++ (Lib.byteCells (sayP word.data.toList (l.take i)) ++ [Value.int .u8 32]) ++ Lib.byteCells (Lib.itoa y) := by
          rw [HS.out]
          simp [Lib.byteCells]
        rw [e1, e2]
        exact Ho3.out), Hb3, Hk3⟩
      case measure => simp [intOf]; omega
    · obtain rfl : i = m := by omega
      go_wp2
      go_ret
      have e : l.take i = l := by rw [Hm.out, List.take_length]
      rw [e] at HO
      exact ⟨_, rfl, HO.out, HB.out, HK.out⟩
end Go.Proofs.YtglobeajmdieaaaDoor
