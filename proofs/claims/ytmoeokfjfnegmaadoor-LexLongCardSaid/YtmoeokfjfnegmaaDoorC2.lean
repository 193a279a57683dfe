/-
  The reference's Lex.
-/
import Derived.Test.YtmoeokfjfnegmaaDoorC1
import Derived.Test.YtmoeokfjfnegmaaDoorB3
import Derived.Test.YtmoeokfjfnegmaaDoorM3
import Derived.Deep.CutRange
namespace Go.Proofs.YtmoeokfjfnegmaaDoor
open Go.RowKit

theorem rskip_from (s : ByteArray) (a : Int) (k : Nat) (ha : a = k) (w : World) (hs : s.size ≤ maxLen) (hk : k ≤ s.size) :
    Calls Tryd.prog 20 #[.string s, .int .i64 a] w fun e w' => e = .returned (.int .i64 (k + skipN false (s.data.toList.drop k) : Nat)) ∧ w = w' := by
  subst ha; exact rskip_any s k w hs hk

theorem ext_len (s : ByteArray) (j i : Nat) (h : i ≤ s.size) : (s.extract j i).data.toList.length = i - j := by
  rw [Array.length_toList]
  show (s.extract j i).size = _
  rw [ByteArray.size_extract]; omega
theorem ext_list (s : ByteArray) (j i : Nat) (h : j ≤ i) : (s.extract j i).data.toList = (s.data.toList.drop j).take (i - j) := by
  have e : i = j + (i - j) := by omega
  rw [e, extract_drop]; simp
/-- Behind a word that ends at i. -/
theorem rel_word {s : ByteArray} {R : List Tk} {O : Option Nat} {ts : List Tk} {j i : Nat} {t : Tk} (h : LexRel s R O ts j) (hw : wordT j (s.data.toList.drop j) = some t) (hts : ts.length ≤ j) (hj : j ≤ s.size) (hi : j + t.bytes.length = i) :
    Hid (LexRel s R O (ts ++ [t]) (i + skipN false (s.data.toList.drop i))) ∧ (ts ++ [t]).length ≤ i + skipN false (s.data.toList.drop i) ∧ i ≤ s.size ∧ j < i ∧ i + skipN false (s.data.toList.drop i) ≤ s.size := by
  subst hi
  obtain ⟨g1, g2, g3, g4, g5⟩ := rel_good h hw hts hj
  exact ⟨g1, g2, g3, by omega, g5⟩
theorem word_letter (s : ByteArray) (j i : Nat) (K : Bool) (hj : j < s.size) (hl : letterB s[j].toNat = true) (hE : i = j + pastN nameB (s.data.toList.drop j)) (hK : K = keptB (s.extract j i).data.toList) :
    wordT j (s.data.toList.drop j) = some ⟨if K = true then 3 else 1, j, 0, (s.extract j i).data.toList⟩ := by
  rw [word_at s j hj, if_pos hl, hK, ext_list s j i (by omega)]
  unfold nameT
  have e : i - j = pastN nameB (s.data.toList.drop j) := by omega
  rw [e]
theorem word_sign0 (s : ByteArray) (j : Nat) (hj : j < s.size) (hl : letterB s[j].toNat = false) (hd : digitB s[j].toNat = false) (h : signN (s.data.toList.drop j) = 0) : wordT j (s.data.toList.drop j) = none := by
  rw [word_at s j hj, if_neg (by simp [hl]), if_neg (by simp [hd])]
  unfold signT
  rw [if_pos h]
theorem word_sign (s : ByteArray) (j i : Nat) (hj : j < s.size) (hl : letterB s[j].toNat = false) (hd : digitB s[j].toNat = false) (h : signN (s.data.toList.drop j) ≠ 0) (hi : i = j + signN (s.data.toList.drop j)) :
    wordT j (s.data.toList.drop j) = some ⟨4, j, 0, (s.extract j i).data.toList⟩ := by
  rw [word_at s j hj, if_neg (by simp [hl]), if_neg (by simp [hd]), ext_list s j i (by omega)]
  unfold signT
  have e : i - j = signN (s.data.toList.drop j) := by omega
  rw [if_neg h, e]
theorem sign_le (s : ByteArray) (j : Nat) (hj : j ≤ s.size) : j + signN (s.data.toList.drop j) ≤ s.size := by
  have := signU_le (min 3 (s.data.toList.drop j).length) (s.data.toList.drop j)
  rw [len_drop] at this
  unfold signN
  rw [len_drop]
  omega
theorem tok_set3 {w : World} {g : Nat} {a b c d : Value} (h : w.heap[g]? = some (.cells #[a, b, c, d] 32 (0, 0))) (u : Value) : (w.setCell ⟨g, 3, none⟩ u).heap[g]? = some (.cells #[a, b, c, u] 32 (0, 0)) := by
  simp [World.setCell, Array.getElem?_modify, h]
theorem tok_set0 {w : World} {g : Nat} {a b c d : Value} (h : w.heap[g]? = some (.cells #[a, b, c, d] 32 (0, 0))) (u : Value) : (w.setCell ⟨g, 0, none⟩ u).heap[g]? = some (.cells #[u, b, c, d] 32 (0, 0)) := by
  simp [World.setCell, Array.getElem?_modify, h]
theorem tok_cells {w : World} {g : Nat} {a b c d : Value} (h : w.heap[g]? = some (.cells #[a, b, c, d] 32 (0, 0))) : w.cell? ⟨g, 0, none⟩ = some a ∧ w.cell? ⟨g, 1, none⟩ = some b ∧ w.cell? ⟨g, 2, none⟩ = some c ∧ w.cell? ⟨g, 3, none⟩ = some d := by
  refine ⟨?_, ?_, ?_, ?_⟩ <;> (rw [cell_of_row _ _ _ _ _ _ h]; rfl)
theorem blk_far {w : World} {g i : Nat} {o : Obj} (h : w.heap[g]? = some o) {g' : Nat} (hn : g ≠ g') (u : Value) : (w.setCell ⟨g', i, none⟩ u).heap[g]? = some o := (Below.heap_setCell w ⟨g', i, none⟩ u g hn).trans h
theorem own_far {w : World} {base n g i : Nat} {e : TypeId} {size : Nat} {v : Value} {xs : List Value} (h : w.ownsRow base e size v n xs) {m : Nat} (hv : ∀ k, v.ownBlock = some k → k < m) (hm : m ≤ g) (u : Value) : (w.setCell ⟨g, i, none⟩ u).ownsRow base e size v n xs :=
  ownsRow_setCell_other h (fun e => by have := hv _ e; simp at this; omega) u
theorem rsign_is (s : ByteArray) (k N : Nat) (hN : Hid (N = signN (s.data.toList.drop k))) (w : World) (hs : s.size ≤ 1048576) (hk : k ≤ s.size) :
    Calls Tryd.prog 22 #[.string s, .int .i64 k] w fun e w' => e = .returned (.int .i64 N) ∧ Below w.heap.size w w' := by
  rw [hN.out]; exact rsign_any s k w hs hk

set_option maxRecDepth 100000 in
set_option maxHeartbeats 16000000 in
theorem rlex_any (s : ByteArray) (w : World) (hs : s.size ≤ 1048576) (R : List Tk) (O : Option Nat) (hL : lexS s.data.toList = (R, O)) :
    Calls Tryd.prog 10 #[.string s] w (LexPost s.size R O w) := by
  have hm : s.size ≤ maxLen := by unfold maxLen; omega
  obtain ⟨i0, hi, hz0, hz1, hz2⟩ := info_parts info32
  have Hi := Lib.hid hi
  have Hz0 := Lib.hid hz0
  have Hz1 := Lib.hid hz1
  have Hz2 := Lib.hid hz2
  clear hi hz0 hz1 hz2
  have hL0 : LexRel s R O [] (skipN false s.data.toList) := by
    unfold lexS at hL
    unfold LexRel
    rw [hL]
    exact ⟨rfl, rfl⟩
  have H0 := Lib.hid hL0
  have hk0 : skipN false s.data.toList ≤ s.size := by have := skipN_le false s.data.toList; rw [Array.length_toList] at this; exact this
  clear hL hL0
  go_enter Tryd.func10, Tryd.ntmps10
  go_wp2_with (go_at_call 20; refine (rskip_any s 0 _ hm (by omega)).mono ?_; rintro e w2 ⟨rfl, rfl⟩)
  have hb0 : Below w.heap.size w ((w.alloc (.cells #[.int .i64 0, .int .i64 0] 25)).alloc (.cells #[] 32)) := ((Below.refl _ _).alloc (Nat.le_refl _) _).alloc (by simp) _
  have hk2 : ((w.alloc (.cells #[.int .i64 0, .int .i64 0] 25)).alloc (.cells #[] 32)).heap[w.heap.size]? = some (.cells #[.int .i64 0, .int .i64 0] 25 (0, 0)) := (Below.heap_alloc _ _ _ (by simp)).trans (heap_alloc_new w _)
  have ho0 : ((w.alloc (.cells #[.int .i64 0, .int .i64 0] 25)).alloc (.cells #[] 32)).ownsRow (w.heap.size + 1) 32 4 (.slice (some ⟨w.heap.size + 1, 0, none⟩) 0 0) 0 [] := by
    have h := World.ownsRow_made (base := w.heap.size + 1) (e := 32) (size := 4) (w.alloc (.cells #[.int .i64 0, .int .i64 0] 25)) #[] 0 (by simp) (by simp) rfl
    simpa using h
  replace hk2 := Lib.hid hk2
  replace ho0 := Lib.hid ho0
  go_loopw [4, 5] (fun v a wr => ∃ (ts : List Tk) (j : Nat), j ≤ s.size ∧ a = .int .i64 j ∧ ts.length ≤ j ∧ Hid (LexRel s R O ts j) ∧ Hid (wr.ownsRow (w.heap.size + 1) 32 4 v ts.length (ts.flatMap tkC)) ∧ Hid (wr.heap[w.heap.size]? = some (.cells #[.int .i64 0, .int .i64 0] 25 (0, 0))) ∧ Below w.heap.size w wr ∧ w.heap.size + 1 ≤ wr.heap.size) (fun _ a _ => s.size - (intOf a).toNat)
  case atStart => exact ⟨[], skipN false s.data.toList, hk0, by simp, Nat.zero_le _, H0, ho0.out, hk2, hb0, by simp⟩
  case round =>
    obtain ⟨ts, j, hj, rfl, hts, H, hown, hblk, hb, hz'⟩ := hrel
    clear hk2 hb0 ho0
    by_cases hlt : j < s.size
    · rcases letN_cases s[j].toNat with ⟨c1, c2, c3⟩ | ⟨c1, c4, c2, c3⟩ | ⟨c1, c2, c3⟩
      · obtain ⟨E, hE⟩ : ∃ E, E = j + pastN nameB (s.data.toList.drop j) := ⟨_, rfl⟩
        obtain ⟨K, hK⟩ : ∃ K, K = keptB (s.extract j E).data.toList := ⟨_, rfl⟩
        have hjE : j + 1 ≤ E := by
          rw [hE, drop_at s j hlt, pastN, if_pos c3]; omega
        have HE := Lib.hid hE.symm
        replace hE := Lib.hid hE
        replace hK := Lib.hid hK
        replace c1 := Lib.hid c1
        replace c2 := Lib.hid c2
        clear c3
        go_wp2_with (go_at_call 21; refine (rletter_is _ _ c2 _).mono ?_; rintro e w' ⟨rfl, rfl⟩)
        go_loop [5] (fun a => ∃ i : Nat, i ≤ s.size ∧ a = .int .i64 i ∧ Hid (i + pastN nameB (s.data.toList.drop i) = E)) (fun a => s.size - (intOf a).toNat)
        case atStart => exact ⟨j, hj, rfl, HE⟩
        case round =>
          obtain ⟨i, hi, rfl, HI⟩ := hrel
          by_cases hil : i < s.size
          · rcases letN_cases s[i].toNat with ⟨d1, d2, d3⟩ | ⟨d1, d4, d2, d3⟩ | ⟨d1, d2, d3⟩
            · have H2 := Lib.hid (past_on _ s i _ hil d3 HI.out)
              replace d2 := Lib.hid d2
              clear HI d1 d3
              go_wp2_with (go_at_call 21; refine (rletter_is _ _ d2 _).mono ?_; rintro e w' ⟨rfl, rfl⟩)
              go_round
              case rel => exact ⟨i + 1, by omega, by go_num, H2⟩
              case measure => simp [intOf]; omega
            · have H2 := Lib.hid (past_on _ s i _ hil d3 HI.out)
              replace d2 := Lib.hid d2
              clear HI d1 d3 d4
              go_wp2_with (go_at_call 21; refine (rletter_is _ _ d2 _).mono ?_; rintro e w' ⟨rfl, rfl⟩)
              go_round
              case rel => exact ⟨i + 1, by omega, by go_num, H2⟩
              case measure => simp [intOf]; omega
            · have e := past_off _ s i _ hil d3 HI.out
              subst e
              replace d2 := Lib.hid d2
              clear d1 d3
              have hw := word_letter s j i K hlt c1.out hE.out hK.out
              have hxl : j + (s.extract j i).data.toList.length = i := by rw [ext_len s j i (by omega)]; omega
              obtain ⟨G1, G2, G3, G4, G5⟩ := rel_word H.out hw hts hj (i := i) hxl
              have HK : Hid (keptB (s.extract j i).data.toList = K) := Lib.hid hK.out.symm
              clear hK hE c1 c2 hw hxl H HI HE
              go_wp2_with (first | (go_at_call 21; refine (rletter_is _ _ d2 _).mono ?_; rintro e w' ⟨rfl, rfl⟩))
              go_region
              rcases K with _ | _
              · go_wp2_with (fail)
                refine (rkept_is _ _ HK _).mono ?_
                rintro e w3 ⟨rfl, hb3⟩
                obtain ⟨hc3, hf3⟩ := bcell hb3
                have hs3 := hb3.size
                go_upto_region 30 with (fail)
                obtain ⟨W, hW⟩ : ∃ W, W = w3 := ⟨_, rfl⟩
                rw [← hW]
                simp at hs3
                have hlo := hown.out.lt
                have hT : W.heap[wr.heap.size]? = some (.cells #[.int .i64 1, .int .i64 j, .int .i64 0, .string (s.extract j i)] 32 (0, 0)) := by
                  rw [hW]; exact (hb3.block _ (by simp)).trans (heap_alloc_new wr _)
                have hownW : Hid (W.ownsRow (w.heap.size + 1) 32 4 u4 ts.length (ts.flatMap tkC)) := by
                  rw [hW]; exact own_below (w := (wr.alloc (.cells #[.int .i64 1, .int .i64 j, .int .i64 0, .string (s.extract j i)] 32)).drew) (hown.out.alloc _) hb3
                have hblkW : Hid (W.heap[w.heap.size]? = some (.cells #[.int .i64 0, .int .i64 0] 25 (0, 0))) := by
                  rw [hW]; exact (hb3.block _ (by simp; omega)).trans ((Below.heap_alloc _ _ _ (by omega)).trans hblk.out)
                have hbW : Below w.heap.size w W := by
                  rw [hW]; exact ((hb.alloc (by omega) _).drew).trans (hb3.mono (by simp; omega))
                have hzW : w.heap.size + 1 ≤ W.heap.size := by rw [hW]; (try simp [World.setCell]); omega
                clear hW hlo hc3 hf3
                obtain ⟨k0, k1, k2, k3⟩ := tok_cells hT
                clear hT
                go_wp2_with (first | (at_builtin; go_must (refine wpList_append_own _ rfl (.tmp 117) (.tmp 119) 23 rfl (w.heap.size + 1) 32 i0 (.agg #[.int .i64 0, .int .i64 0, .int .i64 0, .string ⟨#[]⟩]) 4 40 Tryd.underlying23 Hi.out Hz0.out Hz1.out Hz2.out rfl (by decide) _ ts.length (ts.flatMap tkC) rfl (hownW.out.alloc _) ⟨W.heap.size, 0, none⟩ 1 1 (tkC ⟨1, j, 0, (s.extract j i).data.toList⟩) rfl rfl (new_tk _ _ rfl ⟨1, j, 0, (s.extract j i).data.toList⟩) (tkC_one _) (by unfold maxLen; omega) (by omega) (by simp; omega) ?_); intro v' w4 hown4 hg4 _; replace hown4 := Lib.hid (own_snoc hown4); obtain ⟨hblk4, hb4⟩ := step_end hownW.out hg4 hblkW.out hbW hzW; replace hblk4 := Lib.hid hblk4; have hz4 := hg4.size) | (go_at_call 20; refine (rskip_from s _ i rfl _ hm G3).mono ?_; rintro e w' ⟨rfl, rfl⟩))
                go_roundw
                case rel => exact ⟨ts ++ [Tk.mk 1 j 0 (s.extract j i).data.toList], i + skipN false (s.data.toList.drop i), G5, by go_num, G2, G1, hown4, hblk4, hb4, by simp at hz4; omega⟩
                case measure => simp [intOf]; omega
              · go_wp2_with (fail)
                refine (rkept_is _ _ HK _).mono ?_
                rintro e w3 ⟨rfl, hb3⟩
                obtain ⟨hc3, hf3⟩ := bcell hb3
                have hs3 := hb3.size
                go_upto_region 30 with (fail)
                obtain ⟨W, hW⟩ : ∃ W, W = w3.setCell ⟨wr.heap.size, 0, none⟩ (.int .i64 3) := ⟨_, rfl⟩
                rw [← hW]
                simp at hs3
                have hlo := hown.out.lt
                have hT : W.heap[wr.heap.size]? = some (.cells #[.int .i64 3, .int .i64 j, .int .i64 0, .string (s.extract j i)] 32 (0, 0)) := by
                  rw [hW]; exact tok_set0 ((hb3.block _ (by simp)).trans (heap_alloc_new wr _)) _
                have hownW : Hid (W.ownsRow (w.heap.size + 1) 32 4 u4 ts.length (ts.flatMap tkC)) := by
                  rw [hW]; exact own_far (own_below (w := (wr.alloc (.cells #[.int .i64 1, .int .i64 j, .int .i64 0, .string (s.extract j i)] 32)).drew) (hown.out.alloc _) hb3) (fun k hk => (hlo k hk).2) (Nat.le_refl _) _
                have hblkW : Hid (W.heap[w.heap.size]? = some (.cells #[.int .i64 0, .int .i64 0] 25 (0, 0))) := by
                  rw [hW]; exact blk_far ((hb3.block _ (by simp; omega)).trans ((Below.heap_alloc _ _ _ (by omega)).trans hblk.out)) (by omega) _
                have hbW : Below w.heap.size w W := by
                  rw [hW]; exact (((hb.alloc (by omega) _).drew).trans (hb3.mono (by simp; omega))).setCell (by simp; omega) _
                have hzW : w.heap.size + 1 ≤ W.heap.size := by rw [hW]; (try simp [World.setCell]); omega
                clear hW hlo hc3 hf3
                obtain ⟨k0, k1, k2, k3⟩ := tok_cells hT
                clear hT
                go_wp2_with (first | (at_builtin; go_must (refine wpList_append_own _ rfl (.tmp 117) (.tmp 119) 23 rfl (w.heap.size + 1) 32 i0 (.agg #[.int .i64 0, .int .i64 0, .int .i64 0, .string ⟨#[]⟩]) 4 40 Tryd.underlying23 Hi.out Hz0.out Hz1.out Hz2.out rfl (by decide) _ ts.length (ts.flatMap tkC) rfl (hownW.out.alloc _) ⟨W.heap.size, 0, none⟩ 1 1 (tkC ⟨3, j, 0, (s.extract j i).data.toList⟩) rfl rfl (new_tk _ _ rfl ⟨3, j, 0, (s.extract j i).data.toList⟩) (tkC_one _) (by unfold maxLen; omega) (by omega) (by simp; omega) ?_); intro v' w4 hown4 hg4 _; replace hown4 := Lib.hid (own_snoc hown4); obtain ⟨hblk4, hb4⟩ := step_end hownW.out hg4 hblkW.out hbW hzW; replace hblk4 := Lib.hid hblk4; have hz4 := hg4.size) | (go_at_call 20; refine (rskip_from s _ i rfl _ hm G3).mono ?_; rintro e w' ⟨rfl, rfl⟩))
                go_roundw
                case rel => exact ⟨ts ++ [Tk.mk 3 j 0 (s.extract j i).data.toList], i + skipN false (s.data.toList.drop i), G5, by go_num, G2, G1, hown4, hblk4, hb4, by simp at hz4; omega⟩
                case measure => simp [intOf]; omega
          · have e := past_end _ s i _ hil HI.out
            subst e
            have hw := word_letter s j i K hlt c1.out hE.out hK.out
            have hxl : j + (s.extract j i).data.toList.length = i := by rw [ext_len s j i (by omega)]; omega
            obtain ⟨G1, G2, G3, G4, G5⟩ := rel_word H.out hw hts hj (i := i) hxl
            have HK : Hid (keptB (s.extract j i).data.toList = K) := Lib.hid hK.out.symm
            clear hK hE c1 c2 hw hxl H HI HE
            go_wp2_with (fail)
            go_region
            rcases K with _ | _
            · go_wp2_with (fail)
              refine (rkept_is _ _ HK _).mono ?_
              rintro e w3 ⟨rfl, hb3⟩
              obtain ⟨hc3, hf3⟩ := bcell hb3
              have hs3 := hb3.size
              go_upto_region 30 with (fail)
              obtain ⟨W, hW⟩ : ∃ W, W = w3 := ⟨_, rfl⟩
              rw [← hW]
              simp at hs3
              have hlo := hown.out.lt
              have hT : W.heap[wr.heap.size]? = some (.cells #[.int .i64 1, .int .i64 j, .int .i64 0, .string (s.extract j i)] 32 (0, 0)) := by
                rw [hW]; exact (hb3.block _ (by simp)).trans (heap_alloc_new wr _)
              have hownW : Hid (W.ownsRow (w.heap.size + 1) 32 4 u4 ts.length (ts.flatMap tkC)) := by
                rw [hW]; exact own_below (w := (wr.alloc (.cells #[.int .i64 1, .int .i64 j, .int .i64 0, .string (s.extract j i)] 32)).drew) (hown.out.alloc _) hb3
              have hblkW : Hid (W.heap[w.heap.size]? = some (.cells #[.int .i64 0, .int .i64 0] 25 (0, 0))) := by
                rw [hW]; exact (hb3.block _ (by simp; omega)).trans ((Below.heap_alloc _ _ _ (by omega)).trans hblk.out)
              have hbW : Below w.heap.size w W := by
                rw [hW]; exact ((hb.alloc (by omega) _).drew).trans (hb3.mono (by simp; omega))
              have hzW : w.heap.size + 1 ≤ W.heap.size := by rw [hW]; (try simp [World.setCell]); omega
              clear hW hlo hc3 hf3
              obtain ⟨k0, k1, k2, k3⟩ := tok_cells hT
              clear hT
              go_wp2_with (first | (at_builtin; go_must (refine wpList_append_own _ rfl (.tmp 117) (.tmp 119) 23 rfl (w.heap.size + 1) 32 i0 (.agg #[.int .i64 0, .int .i64 0, .int .i64 0, .string ⟨#[]⟩]) 4 40 Tryd.underlying23 Hi.out Hz0.out Hz1.out Hz2.out rfl (by decide) _ ts.length (ts.flatMap tkC) rfl (hownW.out.alloc _) ⟨W.heap.size, 0, none⟩ 1 1 (tkC ⟨1, j, 0, (s.extract j i).data.toList⟩) rfl rfl (new_tk _ _ rfl ⟨1, j, 0, (s.extract j i).data.toList⟩) (tkC_one _) (by unfold maxLen; omega) (by omega) (by simp; omega) ?_); intro v' w4 hown4 hg4 _; replace hown4 := Lib.hid (own_snoc hown4); obtain ⟨hblk4, hb4⟩ := step_end hownW.out hg4 hblkW.out hbW hzW; replace hblk4 := Lib.hid hblk4; have hz4 := hg4.size) | (go_at_call 20; refine (rskip_from s _ i rfl _ hm G3).mono ?_; rintro e w' ⟨rfl, rfl⟩))
              go_roundw
              case rel => exact ⟨ts ++ [Tk.mk 1 j 0 (s.extract j i).data.toList], i + skipN false (s.data.toList.drop i), G5, by go_num, G2, G1, hown4, hblk4, hb4, by simp at hz4; omega⟩
              case measure => simp [intOf]; omega
            · go_wp2_with (fail)
              refine (rkept_is _ _ HK _).mono ?_
              rintro e w3 ⟨rfl, hb3⟩
              obtain ⟨hc3, hf3⟩ := bcell hb3
              have hs3 := hb3.size
              go_upto_region 30 with (fail)
              obtain ⟨W, hW⟩ : ∃ W, W = w3.setCell ⟨wr.heap.size, 0, none⟩ (.int .i64 3) := ⟨_, rfl⟩
              rw [← hW]
              simp at hs3
              have hlo := hown.out.lt
              have hT : W.heap[wr.heap.size]? = some (.cells #[.int .i64 3, .int .i64 j, .int .i64 0, .string (s.extract j i)] 32 (0, 0)) := by
                rw [hW]; exact tok_set0 ((hb3.block _ (by simp)).trans (heap_alloc_new wr _)) _
              have hownW : Hid (W.ownsRow (w.heap.size + 1) 32 4 u4 ts.length (ts.flatMap tkC)) := by
                rw [hW]; exact own_far (own_below (w := (wr.alloc (.cells #[.int .i64 1, .int .i64 j, .int .i64 0, .string (s.extract j i)] 32)).drew) (hown.out.alloc _) hb3) (fun k hk => (hlo k hk).2) (Nat.le_refl _) _
              have hblkW : Hid (W.heap[w.heap.size]? = some (.cells #[.int .i64 0, .int .i64 0] 25 (0, 0))) := by
                rw [hW]; exact blk_far ((hb3.block _ (by simp; omega)).trans ((Below.heap_alloc _ _ _ (by omega)).trans hblk.out)) (by omega) _
              have hbW : Below w.heap.size w W := by
                rw [hW]; exact (((hb.alloc (by omega) _).drew).trans (hb3.mono (by simp; omega))).setCell (by simp; omega) _
              have hzW : w.heap.size + 1 ≤ W.heap.size := by rw [hW]; (try simp [World.setCell]); omega
              clear hW hlo hc3 hf3
              obtain ⟨k0, k1, k2, k3⟩ := tok_cells hT
              clear hT
              go_wp2_with (first | (at_builtin; go_must (refine wpList_append_own _ rfl (.tmp 117) (.tmp 119) 23 rfl (w.heap.size + 1) 32 i0 (.agg #[.int .i64 0, .int .i64 0, .int .i64 0, .string ⟨#[]⟩]) 4 40 Tryd.underlying23 Hi.out Hz0.out Hz1.out Hz2.out rfl (by decide) _ ts.length (ts.flatMap tkC) rfl (hownW.out.alloc _) ⟨W.heap.size, 0, none⟩ 1 1 (tkC ⟨3, j, 0, (s.extract j i).data.toList⟩) rfl rfl (new_tk _ _ rfl ⟨3, j, 0, (s.extract j i).data.toList⟩) (tkC_one _) (by unfold maxLen; omega) (by omega) (by simp; omega) ?_); intro v' w4 hown4 hg4 _; replace hown4 := Lib.hid (own_snoc hown4); obtain ⟨hblk4, hb4⟩ := step_end hownW.out hg4 hblkW.out hbW hzW; replace hblk4 := Lib.hid hblk4; have hz4 := hg4.size) | (go_at_call 20; refine (rskip_from s _ i rfl _ hm G3).mono ?_; rintro e w' ⟨rfl, rfl⟩))
              go_roundw
              case rel => exact ⟨ts ++ [Tk.mk 3 j 0 (s.extract j i).data.toList], i + skipN false (s.data.toList.drop i), G5, by go_num, G2, G1, hown4, hblk4, hb4, by simp at hz4; omega⟩
              case measure => simp [intOf]; omega
      · obtain ⟨E, hE⟩ : ∃ E, E = j + pastN digitB (s.data.toList.drop j) := ⟨_, rfl⟩
        have hjE : j + 1 ≤ E := by
          rw [hE, drop_at s j hlt, pastN, if_pos c4]; omega
        have HE := Lib.hid hE.symm
        replace hE := Lib.hid hE
        have HN := Lib.hid (num_start s j hlt c4)
        replace c1 := Lib.hid c1
        replace c2 := Lib.hid c2
        replace c4 := Lib.hid c4
        clear c3
        go_wp2_with (go_at_call 21; refine (rletter_is _ _ c2 _).mono ?_; rintro e w' ⟨rfl, rfl⟩)
        go_loop [5, 8, 9] (fun v n f => ∃ (i : Nat) (a : Int) (b : Bool), i ≤ s.size ∧ v = .int .i64 i ∧ n = .int .u64 a ∧ f = .bool b ∧ Hid (i + pastN digitB (s.data.toList.drop i) = E) ∧ Hid (NumRel s j i a b)) (fun v _ _ => s.size - (intOf v).toNat)
        case atStart => exact ⟨j, 0, true, hj, rfl, rfl, rfl, HE, HN⟩
        case round =>
          obtain ⟨i, a, b, hi, rfl, rfl, rfl, HI, HR⟩ := hrel
          clear HN
          by_cases hil : i < s.size
          · rcases letN_cases s[i].toNat with ⟨d1, d2, d3⟩ | ⟨d1, d4, d2, d3⟩ | ⟨d1, d2, d3⟩
            · have hd : digitB s[i].toNat = false := by
                unfold letterB at d1
                unfold digitB
                simp at d1 ⊢
                omega
              have e := past_off _ s i _ hil hd HI.out
              have he := digs_off s i hil hd
              replace he := Lib.hid he
              replace d2 := Lib.hid d2
              clear d1 d3 hd
              subst e
              rcases b with _ | _
              · have hO := Lib.hid (rel_bad H.out hlt (num_none s j i a hlt c1.out c4.out HR.out))
                obtain ⟨hc0, hc1, hf0, hf1, hlt3⟩ := blk_cells hblk.out
                clear H HI HE HR he
                go_wp2_with (go_at_call 21; refine (rletter_is _ _ d2 _).mono ?_; rintro e w' ⟨rfl, rfl⟩)
                refine bodyPost_ret (v := .tuple #[.slice none 0 0, .agg #[.int .i64 1, .int .i64 j]]) (by simp [results, Tryd.results10, go_sem, hc0, hc1, hlt3]) rfl (lexPost_bad hO.out ?_ rfl)
                exact ((hb.setCell (Nat.le_refl _) _).setCell (Nat.le_refl _) _).alloc (by simp [World.setCell]; omega) _
              · have hw := num_ok s j i a hlt c1.out c4.out hE.out he.out HR.out
                have hxl : j + (s.extract j i).data.toList.length = i := by rw [ext_len s j i (by omega)]; omega
                obtain ⟨G1, G2, G3, G4, G5⟩ := rel_word H.out hw hts hj (i := i) hxl
                clear H HI HE HR he hE c1 c2 c4 hw hxl
                go_wp2_with (go_at_call 21; refine (rletter_is _ _ d2 _).mono ?_; rintro e w' ⟨rfl, rfl⟩)
                go_region
                obtain ⟨W, hW⟩ : ∃ W, W = (wr.alloc (.cells #[.int .i64 2, .int .i64 j, .int .i64 (wrap64 a), .string (s.extract j i)] 32)).drew := ⟨_, rfl⟩
                rw [← hW]
                have hT : W.heap[wr.heap.size]? = some (.cells #[.int .i64 2, .int .i64 j, .int .i64 (wrap64 a), .string (s.extract j i)] 32 (0, 0)) := by
                  rw [hW]; exact heap_alloc_new wr _
                have hownW : Hid (W.ownsRow (w.heap.size + 1) 32 4 u4 ts.length (ts.flatMap tkC)) := by
                  rw [hW]; exact (hown.out.alloc _).drew
                have hblkW : Hid (W.heap[w.heap.size]? = some (.cells #[.int .i64 0, .int .i64 0] 25 (0, 0))) := by
                  rw [hW]; exact (Below.heap_alloc _ _ _ (by omega)).trans hblk.out
                have hbW : Below w.heap.size w W := by
                  rw [hW]; exact (hb.alloc (by omega) _).drew
                have hzW : w.heap.size + 1 ≤ W.heap.size := by rw [hW]; simp; omega
                clear hW
                obtain ⟨k0, k1, k2, k3⟩ := tok_cells hT
                clear hT
                go_wp2_with (first | (at_builtin; go_must (refine wpList_append_own _ rfl (.tmp 117) (.tmp 119) 23 rfl (w.heap.size + 1) 32 i0 (.agg #[.int .i64 0, .int .i64 0, .int .i64 0, .string ⟨#[]⟩]) 4 40 Tryd.underlying23 Hi.out Hz0.out Hz1.out Hz2.out rfl (by decide) _ ts.length (ts.flatMap tkC) rfl (hownW.out.alloc _) ⟨W.heap.size, 0, none⟩ 1 1 (tkC ⟨2, j, (wrap64 a), (s.extract j i).data.toList⟩) rfl rfl (new_tk _ _ rfl ⟨2, j, (wrap64 a), (s.extract j i).data.toList⟩) (tkC_one _) (by unfold maxLen; omega) (by omega) (by simp; omega) ?_); intro v' w4 hown4 hg4 _; replace hown4 := Lib.hid (own_snoc hown4); obtain ⟨hblk4, hb4⟩ := step_end hownW.out hg4 hblkW.out hbW hzW; replace hblk4 := Lib.hid hblk4; have hz4 := hg4.size) | (go_at_call 20; refine (rskip_from s _ i rfl _ hm G3).mono ?_; rintro e w' ⟨rfl, rfl⟩))
                go_roundw
                case rel => exact ⟨ts ++ [Tk.mk 2 j (wrap64 a) (s.extract j i).data.toList], i + skipN false (s.data.toList.drop i), G5, by go_num, G2, G1, hown4, hblk4, hb4, by simp at hz4; omega⟩
                case measure => simp [intOf]; omega
            · have H2 := Lib.hid (past_on _ s i _ hil d4 HI.out)
              have h48 : 48 ≤ (s[i].toNat : Int) ∧ (s[i].toNat : Int) ≤ 57 := by simpa [digitB] using d4
              obtain ⟨h48, h57⟩ := h48
              replace d2 := Lib.hid d2
              clear HI d1 d3
              rcases b with _ | _
              · have HF : Hid (∀ b, NumRel s j (i + 1) b false) := Lib.hid (fun b => num_bad s j i a b (i + 1) HR.out)
                clear d4 HR
                go_wp2_with (go_at_call 21; refine (rletter_is _ _ d2 _).mono ?_; rintro e w' ⟨rfl, rfl⟩)
                all_goals
                  go_round
                  case rel => exact ⟨i + 1, _, false, by omega, by go_num, rfl, rfl, H2, HF.out _⟩
                  case measure => simp [intOf]; omega
              · obtain ⟨n0, n1, n2, n3, n4⟩ := num_step s j i a hil d4 HR.out
                clear d4 HR
                by_cases hA : 1844674407370955161 < a
                · have HF := Lib.hid (n2 hA)
                  clear n2 n3 n4
                  go_wp2_with (go_at_call 21; refine (rletter_is _ _ d2 _).mono ?_; rintro e w' ⟨rfl, rfl⟩)
                  go_round
                  case rel => exact ⟨i + 1, _, false, by omega, by go_num, rfl, rfl, H2, HF.out _⟩
                  case measure => simp [intOf]; omega
                · by_cases hB : a = 1844674407370955161
                  · by_cases h5 : 5 < (s[i].toNat : Int) - 48
                    · have HF := Lib.hid (n3 hB h5)
                      subst hB
                      clear n2 n3 n4
                      go_wp2_with (go_at_call 21; refine (rletter_is _ _ d2 _).mono ?_; rintro e w' ⟨rfl, rfl⟩)
                      go_round
                      case rel => exact ⟨i + 1, _, false, by omega, by go_num, rfl, rfl, H2, HF.out _⟩
                      case measure => simp [intOf]; omega
                    · obtain ⟨HT, hle⟩ := n4 (by omega) (fun _ => by omega)
                      replace HT := Lib.hid HT
                      subst hB
                      clear n2 n3 n4
                      go_wp2_with (go_at_call 21; refine (rletter_is _ _ d2 _).mono ?_; rintro e w' ⟨rfl, rfl⟩)
                      go_round
                      case rel => exact ⟨i + 1, _, true, by omega, by go_num, rfl, rfl, H2, HT⟩
                      case measure => simp [intOf]; omega
                  · obtain ⟨HT, hle⟩ := n4 (by omega) (fun h => absurd h hB)
                    replace HT := Lib.hid HT
                    have q1 : (a == 1844674407370955161) = false := by simpa using hB
                    have q2 : a < 1844674407370955161 := by omega
                    have q3 : IntKind.u64.wrap (a * 10) = a * 10 := IntWalk.u64_in _ (by omega)
                    clear n2 n3 n4 hA hB
                    go_wp2_with (go_at_call 21; refine (rletter_is _ _ d2 _).mono ?_; rintro e w' ⟨rfl, rfl⟩)
                    go_round
                    case rel => exact ⟨i + 1, _, true, by omega, by go_num, rfl, rfl, H2, HT⟩
                    case measure => simp [intOf]; omega
            · have hd : digitB s[i].toNat = false := by unfold nameB at d3; rw [d1] at d3; simpa using d3
              have e := past_off _ s i _ hil hd HI.out
              have he := digs_off s i hil hd
              replace he := Lib.hid he
              replace d2 := Lib.hid d2
              clear d1 d3 hd
              subst e
              rcases b with _ | _
              · have hO := Lib.hid (rel_bad H.out hlt (num_none s j i a hlt c1.out c4.out HR.out))
                obtain ⟨hc0, hc1, hf0, hf1, hlt3⟩ := blk_cells hblk.out
                clear H HI HE HR he
                go_wp2_with (go_at_call 21; refine (rletter_is _ _ d2 _).mono ?_; rintro e w' ⟨rfl, rfl⟩)
                refine bodyPost_ret (v := .tuple #[.slice none 0 0, .agg #[.int .i64 1, .int .i64 j]]) (by simp [results, Tryd.results10, go_sem, hc0, hc1, hlt3]) rfl (lexPost_bad hO.out ?_ rfl)
                exact ((hb.setCell (Nat.le_refl _) _).setCell (Nat.le_refl _) _).alloc (by simp [World.setCell]; omega) _
              · have hw := num_ok s j i a hlt c1.out c4.out hE.out he.out HR.out
                have hxl : j + (s.extract j i).data.toList.length = i := by rw [ext_len s j i (by omega)]; omega
                obtain ⟨G1, G2, G3, G4, G5⟩ := rel_word H.out hw hts hj (i := i) hxl
                clear H HI HE HR he hE c1 c2 c4 hw hxl
                go_wp2_with (go_at_call 21; refine (rletter_is _ _ d2 _).mono ?_; rintro e w' ⟨rfl, rfl⟩)
                go_region
                obtain ⟨W, hW⟩ : ∃ W, W = (wr.alloc (.cells #[.int .i64 2, .int .i64 j, .int .i64 (wrap64 a), .string (s.extract j i)] 32)).drew := ⟨_, rfl⟩
                rw [← hW]
                have hT : W.heap[wr.heap.size]? = some (.cells #[.int .i64 2, .int .i64 j, .int .i64 (wrap64 a), .string (s.extract j i)] 32 (0, 0)) := by
                  rw [hW]; exact heap_alloc_new wr _
                have hownW : Hid (W.ownsRow (w.heap.size + 1) 32 4 u4 ts.length (ts.flatMap tkC)) := by
                  rw [hW]; exact (hown.out.alloc _).drew
                have hblkW : Hid (W.heap[w.heap.size]? = some (.cells #[.int .i64 0, .int .i64 0] 25 (0, 0))) := by
                  rw [hW]; exact (Below.heap_alloc _ _ _ (by omega)).trans hblk.out
                have hbW : Below w.heap.size w W := by
                  rw [hW]; exact (hb.alloc (by omega) _).drew
                have hzW : w.heap.size + 1 ≤ W.heap.size := by rw [hW]; simp; omega
                clear hW
                obtain ⟨k0, k1, k2, k3⟩ := tok_cells hT
                clear hT
                go_wp2_with (first | (at_builtin; go_must (refine wpList_append_own _ rfl (.tmp 117) (.tmp 119) 23 rfl (w.heap.size + 1) 32 i0 (.agg #[.int .i64 0, .int .i64 0, .int .i64 0, .string ⟨#[]⟩]) 4 40 Tryd.underlying23 Hi.out Hz0.out Hz1.out Hz2.out rfl (by decide) _ ts.length (ts.flatMap tkC) rfl (hownW.out.alloc _) ⟨W.heap.size, 0, none⟩ 1 1 (tkC ⟨2, j, (wrap64 a), (s.extract j i).data.toList⟩) rfl rfl (new_tk _ _ rfl ⟨2, j, (wrap64 a), (s.extract j i).data.toList⟩) (tkC_one _) (by unfold maxLen; omega) (by omega) (by simp; omega) ?_); intro v' w4 hown4 hg4 _; replace hown4 := Lib.hid (own_snoc hown4); obtain ⟨hblk4, hb4⟩ := step_end hownW.out hg4 hblkW.out hbW hzW; replace hblk4 := Lib.hid hblk4; have hz4 := hg4.size) | (go_at_call 20; refine (rskip_from s _ i rfl _ hm G3).mono ?_; rintro e w' ⟨rfl, rfl⟩))
                go_roundw
                case rel => exact ⟨ts ++ [Tk.mk 2 j (wrap64 a) (s.extract j i).data.toList], i + skipN false (s.data.toList.drop i), G5, by go_num, G2, G1, hown4, hblk4, hb4, by simp at hz4; omega⟩
                case measure => simp [intOf]; omega
          · have e := past_end _ s i _ hil HI.out
            have he := Lib.hid (digs_end s i hil)
            subst e
            rcases b with _ | _
            · have hO := Lib.hid (rel_bad H.out hlt (num_none s j i a hlt c1.out c4.out HR.out))
              obtain ⟨hc0, hc1, hf0, hf1, hlt3⟩ := blk_cells hblk.out
              clear H HI HE HR he
              go_wp2_with (fail)
              refine bodyPost_ret (v := .tuple #[.slice none 0 0, .agg #[.int .i64 1, .int .i64 j]]) (by simp [results, Tryd.results10, go_sem, hc0, hc1, hlt3]) rfl (lexPost_bad hO.out ?_ rfl)
              exact ((hb.setCell (Nat.le_refl _) _).setCell (Nat.le_refl _) _).alloc (by simp [World.setCell]; omega) _
            · have hw := num_ok s j i a hlt c1.out c4.out hE.out he.out HR.out
              have hxl : j + (s.extract j i).data.toList.length = i := by rw [ext_len s j i (by omega)]; omega
              obtain ⟨G1, G2, G3, G4, G5⟩ := rel_word H.out hw hts hj (i := i) hxl
              clear H HI HE HR he hE c1 c2 c4 hw hxl
              go_wp2_with (fail)
              go_region
              obtain ⟨W, hW⟩ : ∃ W, W = (wr.alloc (.cells #[.int .i64 2, .int .i64 j, .int .i64 (wrap64 a), .string (s.extract j i)] 32)).drew := ⟨_, rfl⟩
              rw [← hW]
              have hT : W.heap[wr.heap.size]? = some (.cells #[.int .i64 2, .int .i64 j, .int .i64 (wrap64 a), .string (s.extract j i)] 32 (0, 0)) := by
                rw [hW]; exact heap_alloc_new wr _
              have hownW : Hid (W.ownsRow (w.heap.size + 1) 32 4 u4 ts.length (ts.flatMap tkC)) := by
                rw [hW]; exact (hown.out.alloc _).drew
              have hblkW : Hid (W.heap[w.heap.size]? = some (.cells #[.int .i64 0, .int .i64 0] 25 (0, 0))) := by
                rw [hW]; exact (Below.heap_alloc _ _ _ (by omega)).trans hblk.out
              have hbW : Below w.heap.size w W := by
                rw [hW]; exact (hb.alloc (by omega) _).drew
              have hzW : w.heap.size + 1 ≤ W.heap.size := by rw [hW]; simp; omega
              clear hW
              obtain ⟨k0, k1, k2, k3⟩ := tok_cells hT
              clear hT
              go_wp2_with (first | (at_builtin; go_must (refine wpList_append_own _ rfl (.tmp 117) (.tmp 119) 23 rfl (w.heap.size + 1) 32 i0 (.agg #[.int .i64 0, .int .i64 0, .int .i64 0, .string ⟨#[]⟩]) 4 40 Tryd.underlying23 Hi.out Hz0.out Hz1.out Hz2.out rfl (by decide) _ ts.length (ts.flatMap tkC) rfl (hownW.out.alloc _) ⟨W.heap.size, 0, none⟩ 1 1 (tkC ⟨2, j, (wrap64 a), (s.extract j i).data.toList⟩) rfl rfl (new_tk _ _ rfl ⟨2, j, (wrap64 a), (s.extract j i).data.toList⟩) (tkC_one _) (by unfold maxLen; omega) (by omega) (by simp; omega) ?_); intro v' w4 hown4 hg4 _; replace hown4 := Lib.hid (own_snoc hown4); obtain ⟨hblk4, hb4⟩ := step_end hownW.out hg4 hblkW.out hbW hzW; replace hblk4 := Lib.hid hblk4; have hz4 := hg4.size) | (go_at_call 20; refine (rskip_from s _ i rfl _ hm G3).mono ?_; rintro e w' ⟨rfl, rfl⟩))
              go_roundw
              case rel => exact ⟨ts ++ [Tk.mk 2 j (wrap64 a) (s.extract j i).data.toList], i + skipN false (s.data.toList.drop i), G5, by go_num, G2, G1, hown4, hblk4, hb4, by simp at hz4; omega⟩
              case measure => simp [intOf]; omega
      · obtain ⟨N, hN⟩ : ∃ N, N = signN (s.data.toList.drop j) := ⟨_, rfl⟩
        have hNs := sign_le s j hj
        rw [← hN] at hNs
        have cd : digitB s[j].toNat = false := by unfold nameB at c3; rw [c1] at c3; simpa using c3
        replace c2 := Lib.hid c2
        by_cases hN0 : N = 0
        · subst hN0
          have hO := Lib.hid (rel_bad H.out hlt (word_sign0 s j hlt c1 cd hN.symm))
          replace hN := Lib.hid hN
          clear c1 c3 cd hNs
          go_wp2_with (first | (go_at_call 21; refine (rletter_is _ _ c2 _).mono ?_; rintro e w' ⟨rfl, rfl⟩) | (go_at_call 22; refine (rsign_is s j 0 hN _ hs hj).mono ?_; rintro e w3 ⟨rfl, hb3⟩; obtain ⟨hc0, hc1, hf0, hf1, hlt3⟩ := blk_cells ((hb3.block _ (by simp; omega)).trans ((Below.heap_alloc _ _ _ (by omega)).trans hblk.out))))
          refine bodyPost_ret (v := .tuple #[.slice none 0 0, .agg #[.int .i64 1, .int .i64 j]]) (by simp [results, Tryd.results10, go_sem, hc0, hc1]) rfl (lexPost_bad hO.out ?_ rfl)
          have hs3 := hb3.size
          simp at hs3
          exact (((hb.alloc (by omega) _).trans (hb3.mono (by simp; omega))).setCell (Nat.le_refl _) _).setCell (Nat.le_refl _) _
        · have hw := word_sign s j (j + N) hlt c1 cd (by omega) (by omega)
          obtain ⟨G1, G2, G3, G4, G5⟩ := rel_word H.out hw hts hj (i := j + N) (by rw [ext_len s j (j + N) hNs]; omega)
          replace hN := Lib.hid hN
          clear c1 c3 cd
          go_upto_region 30 with (first | (go_at_call 21; refine (rletter_is _ _ c2 _).mono ?_; rintro e w' ⟨rfl, rfl⟩) | (go_at_call 22; refine (rsign_is s j N hN _ hs hj).mono ?_; rintro e w3 ⟨rfl, hb3⟩; obtain ⟨hc3, hf3⟩ := bcell hb3; have hs3 := hb3.size))
          obtain ⟨W, hW⟩ : ∃ W, W = w3.setCell ⟨wr.heap.size, 3, none⟩ (.string (s.extract j (j + N))) := ⟨_, rfl⟩
          rw [← hW]
          simp at hs3
          have hlo := hown.out.lt
          have hT : W.heap[wr.heap.size]? = some (.cells #[.int .i64 4, .int .i64 j, .int .i64 0, .string (s.extract j (j + N))] 32 (0, 0)) := by
            rw [hW]; exact tok_set3 ((hb3.block _ (by simp)).trans (heap_alloc_new wr _)) _
          have hownW : Hid (W.ownsRow (w.heap.size + 1) 32 4 u4 ts.length (ts.flatMap tkC)) := by
            rw [hW]; exact own_far (own_below (hown.out.alloc _) hb3) (fun k hk => (hlo k hk).2) (Nat.le_refl _) _
          have hblkW : Hid (W.heap[w.heap.size]? = some (.cells #[.int .i64 0, .int .i64 0] 25 (0, 0))) := by
            rw [hW]; exact blk_far ((hb3.block _ (by simp; omega)).trans ((Below.heap_alloc _ _ _ (by omega)).trans hblk.out)) (by omega) _
          have hbW : Below w.heap.size w W := by
            rw [hW]; exact ((hb.alloc (by omega) _).trans (hb3.mono (by simp; omega))).setCell (by simp; omega) _
          have hzW : w.heap.size + 1 ≤ W.heap.size := by rw [hW]; simp [World.setCell]; omega
          clear hW hlo hc3 hf3
          obtain ⟨k0, k1, k2, k3⟩ := tok_cells hT
          clear hT
          go_wp2_with (first | (at_builtin; go_must (refine wpList_append_own _ rfl (.tmp 117) (.tmp 119) 23 rfl (w.heap.size + 1) 32 i0 (.agg #[.int .i64 0, .int .i64 0, .int .i64 0, .string ⟨#[]⟩]) 4 40 Tryd.underlying23 Hi.out Hz0.out Hz1.out Hz2.out rfl (by decide) _ ts.length (ts.flatMap tkC) rfl (hownW.out.alloc _) ⟨W.heap.size, 0, none⟩ 1 1 (tkC ⟨4, j, 0, (s.extract j (j + N)).data.toList⟩) rfl rfl (new_tk _ _ rfl ⟨4, j, 0, (s.extract j (j + N)).data.toList⟩) (tkC_one _) (by unfold maxLen; omega) (by omega) (by simp; omega) ?_); intro v' w4 hown4 hg4 _; replace hown4 := Lib.hid (own_snoc hown4); obtain ⟨hblk4, hb4⟩ := step_end hownW.out hg4 hblkW.out hbW hzW; replace hblk4 := Lib.hid hblk4; have hz4 := hg4.size) | (go_at_call 20; refine (rskip_from s _ (j + N) (by simp) _ hm G3).mono ?_; rintro e w' ⟨rfl, rfl⟩))
          go_roundw
          case rel => exact ⟨ts ++ [Tk.mk 4 j 0 (s.extract j (j + N)).data.toList], (j + N) + skipN false (s.data.toList.drop (j + N)), G5, by go_num, G2, G1, hown4, hblk4, hb4, by simp at hz4; omega⟩
          case measure => simp [intOf]; omega
    · obtain ⟨rfl, rfl⟩ := rel_end H.out hlt
      clear H
      go_wp2_with (first | (at_builtin; go_must (refine wpList_append_own _ rfl (.tmp 124) (.tmp 128) 23 rfl (w.heap.size + 1) 32 i0 (.agg #[.int .i64 0, .int .i64 0, .int .i64 0, .string ⟨#[]⟩]) 4 40 Tryd.underlying23 Hi.out Hz0.out Hz1.out Hz2.out rfl (by decide) _ R.length (R.flatMap tkC) rfl (hown.out.alloc _) ⟨wr.heap.size, 0, none⟩ 1 1 (tkC (endT s.size)) rfl rfl (new_tk _ _ rfl (endT s.size)) (tkC_one _) (by unfold maxLen; omega) (by omega) (by simp; omega) ?_); intro v' w4 hown4 hg4 _; obtain ⟨g, cap, rfl, hgB, _⟩ := hown4.form (by omega); replace hown4 := Lib.hid (own_snoc hown4); obtain ⟨hblk4, hb4⟩ := step_end hown.out hg4 hblk.out hb hz'; obtain ⟨hc0, hc1, hf0, hf1, hlt4⟩ := blk_cells hblk4; clear hblk4))
      refine bodyPost_ret (v := .tuple #[.slice (some ⟨g, 0, none⟩) (R.length + 1) cap, .agg #[.int .i64 0, .int .i64 0]]) (by simp [results, Tryd.results10, go_sem, hc0, hc1]) rfl ⟨?_, g, cap, rfl, ?_⟩
      · exact (hb4.setCell (Nat.le_refl _) _).setCell (Nat.le_refl _) _
      · have h := hown4.out
        rw [List.length_append, List.length_singleton] at h
        exact ownsRow_setCell_below (ownsRow_setCell_below h (Nat.lt_succ_self _) _) (Nat.lt_succ_self _) _
end Go.Proofs.YtmoeokfjfnegmaaDoor
