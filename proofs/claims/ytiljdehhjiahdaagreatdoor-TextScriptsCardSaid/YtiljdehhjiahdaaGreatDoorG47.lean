/-
  The program's Line.
-/
import Derived.Test.YtiljdehhjiahdaaGreatDoorG41
import Derived.Test.YtiljdehhjiahdaaGreatDoorG46
set_option linter.unusedSimpArgs false
set_option linter.unusedVariables false
namespace Go.Proofs.YtiljdehhjiahdaaGreatDoor
open Go.RowKit
def kWords (k : Int) : Nat := if k = 1 then 37 else if k = 2 then 39 else if k = 3 then 41 else if k = 5 then 45 else if k = 6 then 47 else 43
theorem words6_any (w : World) (hG : Glob6 w) (x : Ev) (hx : x.In) (hg : evGood x = true) (tx rd : Value) {N : Nat} (ht : EvAt N w tx rd x) (hN : N ≤ w.heap.size) : Calls Tryz.prog (kWords x.k) #[.agg (evC x tx rd)] w (Words6 w (evTail x)) := by
  obtain ⟨hk, hc, hf, hn⟩ := good_parts hg
  unfold evFits at hf
  rcases kind_cases hk with e | e | e | e | e | e | e
  · rw [show evTail x = cfgW x.g by simp [evTail, e], e]
    simp only [e, if_true] at hf
    exact wordsOfConfig_any w hG x hx hf tx rd
  · rw [show evTail x = whoW x ++ opWords x.o by simp [evTail, e], e]
    simp only [e] at hf
    exact wordsOfInvoke_any w hG x hx (by simpa using hf) tx rd
  · rw [show evTail x = whoW x ++ [rsTxt x.rk x.rv] by simp [evTail, e], e]
    simp only [e] at hf
    exact wordsOfReturn_any w hG x hx (by simpa using hf) tx rd
  · rw [show evTail x = whoW x by simp [evTail, e], e]
    exact wordsOfWho_any w hG x hx tx rd
  · rw [show evTail x = whoW x ++ x.t.flatMap micW by simp [evTail, e], e]
    simp only [e] at hf
    have := (mics_all (by simpa using hf)).2.1
    exact wordsOfBegin_any w hG x hx tx rd ht.t hN (by omega)
  · rw [show evTail x = whoW x ++ x.r.map listW by simp [evTail, e], e]
    simp only [e] at hf
    obtain ⟨h1, h2⟩ := lists_all (by simpa using hf)
    exact wordsOfCommit_any w hG x hx tx rd ht.r hN (by omega) (fun l hl => by have := h2 l hl; omega)
  · rw [show evTail x = whoW x by simp [evTail, e], e]
    exact wordsOfWho_any w hG x hx tx rd
theorem listW_len {l : List Int} (hi : InU16 l) (hl : l.length ≤ 32) : (listW l).length ≤ 1000 := by
  unfold listW
  split
  · simp
  · have := join_le (l := l.map dec) (N := 7) (fun x hx => by
      rw [List.mem_map] at hx
      obtain ⟨n, hn, rfl⟩ := hx
      have := mem_u16.1 hi n hn
      exact dec_short this.1 (by omega)) 44
    simp at this ⊢
    omega
set_option maxHeartbeats 4000000 in
theorem tail_short {x : Ev} (hx : x.In) (hg : evGood x = true) : (∀ w ∈ kdNm x.k :: evTail x, w.length ≤ 1000) ∧ (evTail x).length ≤ 100 := by
  obtain ⟨hk, hc, hf, hn⟩ := good_parts hg
  have hd : ∀ n : Int, 0 ≤ n → n < 10000000 → (dec n).length ≤ 1000 := fun n a b => by have := dec_short a b; omega
  have hwho : ∀ w ∈ whoW x, w.length ≤ 1000 := by
    intro w hw
    simp [whoW] at hw
    rcases hw with rfl | rfl
    · exact hd _ hx.c0 (by omega)
    · exact hd _ hx.i0 (by have := hx.i1; omega)
  have hkd : (kdNm x.k).length ≤ 1000 := by rcases kind_cases hk with e | e | e | e | e | e | e <;> rw [e] <;> decide
  have hwl : (evWords x).length ≤ 27 := words_le hx hg
  have ho := hx.o
  unfold evFits at hf
  have key : ∀ w ∈ evTail x, w.length ≤ 1000 := by
    unfold evTail
    rcases kind_cases hk with e | e | e | e | e | e | e
    · simp only [e, if_true] at hf ⊢
      obtain ⟨g1, g2, g3, g4⟩ := cfg_all hf
      have hm0 := hx.m0
      have hmd : (mdNm x.g.m).length ≤ 1000 := by
        rcases (by omega : x.g.m = 0 ∨ x.g.m = 1 ∨ x.g.m = 2 ∨ x.g.m = 3 ∨ x.g.m = 4) with e | e | e | e | e <;> rw [e] <;> decide
      have h1 := hd x.g.mo (by omega) (by omega)
      have h2 := hd x.g.ms (by omega) (by omega)
      have h3 := hd x.g.mt (by omega) (by omega)
      intro w hw
      unfold cfgW flagW at hw
      simp only [List.mem_append, List.mem_cons, List.not_mem_nil, or_false] at hw
      rcases hw with (((rfl | rfl | rfl | rfl) | h) | h) | h
      · exact hmd
      · exact h1
      · exact h2
      · exact h3
      all_goals
        split at h
        · simp at h; subst h; decide
        · simp at h
    · simp [e] at hf ⊢
      intro w hw
      rcases hw with h | h
      · exact hwho w h
      · unfold opWords at h
        simp only [List.mem_append, List.mem_cons, List.not_mem_nil, or_false] at h
        rcases h with (((rfl | rfl) | h) | h) | h
        · exact hd _ ho.o0 (by have := ho.o1; omega)
        · unfold opNm
          repeat' split
          all_goals decide
        all_goals
          split at h
          · simp at h; subst h; first | exact hd _ ho.k0 (by have := ho.k1; omega) | exact hd _ ho.a0 (by have := ho.a1; omega) | exact hd _ ho.b0 (by have := ho.b1; omega)
          · simp at h
    · simp [e]
      intro w hw
      rcases hw with h | rfl
      · exact hwho w h
      · have := txt_size (k := x.rk) (v := x.rv) (by have := hx.rv1; omega); omega
    · simp [e]; exact hwho
    · simp [e] at hf ⊢
      intro w hw
      rcases hw with h | ⟨m, hm, h⟩
      · exact hwho w h
      · have hmi := hx.t m hm
        unfold micW at h
        split at h
        · simp at h; rcases h with rfl | rfl
          · decide
          · exact hd _ hmi.k0 (by have := hmi.k1; omega)
        · simp at h; rcases h with rfl | rfl | rfl
          · decide
          · exact hd _ hmi.k0 (by have := hmi.k1; omega)
          · exact hd _ hmi.v0 (by have := hmi.v1; omega)
    · simp [e] at hf ⊢
      intro w hw
      rcases hw with h | ⟨l, hl, rfl⟩
      · exact hwho w h
      · exact listW_len (hx.r l hl) ((lists_all hf).2 l hl)
    · simp [e]; exact hwho
  refine ⟨fun w hw => ?_, ?_⟩
  · rcases List.mem_cons.1 hw with rfl | hw
    · exact hkd
    · exact key w hw
  · by_cases k3 : x.k = 3
    · simp [evTail, k3, whoW]
    · unfold evWords at hwl
      rw [if_neg k3] at hwl
      simp at hwl
      omega
theorem txKind_1 (k : Int) (h1 : 1 ≤ k) (h7 : k ≤ 7) : (txKind k)[1]? = some (.func (.func (kWords k)) #[] #[]) := by
  rcases (by omega : k = 1 ∨ k = 2 ∨ k = 3 ∨ k = 4 ∨ k = 5 ∨ k = 6 ∨ k = 7) with rfl | rfl | rfl | rfl | rfl | rfl | rfl <;> rfl
theorem enter_words6 {k : Int} (h1 : 1 ≤ k) (h7 : k ≤ 7) : ∀ v w, (callFunc (kWords k) #[v]).run Tryz.prog w = .ok (.enter (kWords k) #[v]) w := by
  rcases (by omega : k = 1 ∨ k = 2 ∨ k = 3 ∨ k = 4 ∨ k = 5 ∨ k = 6 ∨ k = 7) with rfl | rfl | rfl | rfl | rfl | rfl | rfl
  all_goals
    intro v w
    simp [kWords, go_sem]
theorem wp_put_rowO {o : Oper} {a : Act} {w : World} {K : Act → World → Prop} {Q : Exit → Act → World → Prop} {T : TypeId} {x y : Operand} {g : Nat} {old cells : Array Value} {t : TypeId} (n : Nat)
    (ho : o.op = .store T x y) (hx : a.eval x = .pointer (some ⟨g, 0, none⟩)) (hy : a.eval y = .agg cells) (hg : w.heap[g]? = some (.cells old t (0, 0))) (hs : old.size = n ∧ cells.size = n) (hT : (Tryz.prog.info? T).map (·.size) = some n)
    (h1 : cells.toList.all (·.oneCell') = true) (h : ∀ W, W.heap[g]? = some (.cells cells t (0, 0)) → Keeps [g] w W → K (a.put o.dst undef) W) : o.wp Tryz.prog a w K Q :=
  wp_store_row T x y ho g cells hx hy t old hg (by rw [hs.2]; exact hT) (by rw [hs.1, hs.2]) (by rw [← Array.all_toList]; exact h1) (h _ (setRow_heap w g old cells t (0, 0) hg) ((Keeps.refl [g] w).setRow g cells (.inl (by simp))))
def LinePost (x : Ev) (w : World) (e : Ending) (w' : World) : Prop := e = .returned (.tuple #[.string (bs (if evGood x then evLine x else [])), .int .i64 (evErr x)]) ∧ Keeps [] w w'
set_option maxHeartbeats 16000000 in
set_option maxRecDepth 100000 in
theorem txLine_any (w : World) (hG : Glob6 w) (x : Ev) (hx : x.In) (tx rd : Value) {N : Nat} (ht : EvAt N w tx rd x) (hN : N ≤ w.heap.size) : Calls Tryz.prog 8 #[.agg (evC x tx rd)] w (LinePost x w) := by
  have hk0 := (Keeps.refl [] w).alloc (.cells (evC x tx rd) 32)
  have HX := Lib.hid (heap_alloc_new w (.cells (evC x tx rd) 32))
  have HG0 := Lib.hid (hG.new hk0)
  have HK := Lib.hid hk0
  have hz : w.heap.size < (w.alloc (.cells (evC x tx rd) 32)).heap.size := lt_of_block HX.out
  have ht0 := ht.new hk0 hN
  have hchk := Check5_any _ HG0.out.o x hx tx rd ht0 (Nat.le_trans hN hk0.size)
  have HT := Lib.hid ht0
  unfold LinePost
  have hE : evErr x = if evGood x then 0 else 4 := rfl
  rw [hE] at hchk ⊢
  have hNw : N ≤ (w.alloc (.cells (evC x tx rd) 32)).heap.size := Nat.le_trans hN hk0.size
  clear hk0 ht ht0 hE hG
  cases hg : evGood x with
  | false =>
    rw [hg] at hchk
    simp only [Bool.false_eq_true, if_false] at hchk ⊢
    clear hg
    go_enter Tryz.func8, Tryz.ntmps8
    go_wp2_with ((with_reducible apply wpList_load_ev); exact rfl; exact HX.out; exact rfl)
    generalize w.alloc (.cells (evC x tx rd) 32) = w1 at *
    refine hchk.mono ?_; rintro e w2 ⟨rfl, hk2⟩
    have HK2 := Lib.hid (HK.out.trans hk2 (FSub.refl _ _))
    clear hchk hk2 HX HT
    go_wp2_with fail
    go_ret2
    exact ⟨rfl, HK2.out⟩
  | true =>
    rw [hg] at hchk
    have hline : evLine x = Lib.join (kdNm x.k :: evTail x) [32] := rfl
    simp only [if_true] at hchk ⊢
    rw [hline]
    clear hline
    obtain ⟨RS, hRS⟩ : ∃ R, bs (Lib.join (kdNm x.k :: evTail x) [32]) = R := ⟨_, rfl⟩
    rw [hRS]
    have HRS := Lib.hid hRS
    clear hRS
    go_enter Tryz.func8, Tryz.ntmps8
    go_wp2_with ((with_reducible apply wpList_load_ev); exact rfl; exact HX.out; exact rfl)
    generalize w.alloc (.cells (evC x tx rd) 32) = w1 at *
    refine hchk.mono ?_; rintro e w2 ⟨rfl, hk2⟩
    obtain ⟨hkd, -, -, -⟩ := good_parts hg
    have hk17 : 1 ≤ x.k ∧ x.k ≤ 7 := by simp [evKind] at hkd; omega
    have hts := tail_short hx hg
    have hX2 := hk2.heap HX.out (by simp)
    have HX2 := Lib.hid hX2
    have HG2 := Lib.hid (HG0.out.new hk2)
    have HK2 := Lib.hid (HK.out.trans hk2 (FSub.refl _ _))
    have HT2 := Lib.hid (HT.out.new hk2 hNw)
    have hN2 : N ≤ w2.heap.size := Nat.le_trans hNw hk2.size
    generalize hB : w.heap.size = B at *
    have hBw : B < w2.heap.size := lt_of_block hX2
    have hix := fun w => index_tx8 w x.k hk17.1 hk17.2
    have hz3 := txKind_size x.k; have ho3 := txKind_one x.k
    have h30 := txKind_0 x.k; have h31 := txKind_1 x.k hk17.1 hk17.2
    have hent := enter_words6 hk17.1 hk17.2
    have hwd := fun w hG ht hN => words6_any w hG x hx hg tx rd (N := N) ht hN
    have hTLn : evTail x ≠ [] := by
      unfold evTail cfgW whoW
      repeat' split
      all_goals simp
    have HTLN := Lib.hid hTLn
    clear hTLn
    generalize txKind x.k = C at *
    generalize kWords x.k = KW at *
    generalize kdNm x.k = NM at *
    generalize evTail x = TL at *
    generalize hKC : txKindsC = KC at *
    have HZ3 := Lib.hid hz3; have HO3 := Lib.hid ho3; have H30 := Lib.hid h30; have H31 := Lib.hid h31; have HWD := Lib.hid hwd; have HTS := Lib.hid hts
    have HTXX := Lib.hid hx
    have HKC := Lib.hid hKC
    clear HX HG0 HK HT hchk hk2 hz3 ho3 h30 h31 hwd hts hg hkd hX2 hx hKC hB hk17
    simp only []
    go_wp2_with fail
    refine wp_region_noPanic ?_
    refine wp_region_held_drew (S := fun w' => w'.heap[B]? = some (.cells (evC x tx rd) 32 (0, 0))) (by kernel_rfl) HX2.out (fun hHeld => ?_)
    apply wpAnyH_take (i := 1) (v := .pointer (some ⟨B, 0, none⟩))
    · simp only [List.getElem?_toArray]; rfl
    · kernel_rfl
    · kernel_rfl
    · kernel_rfl
    · exact fun _ _ _ h => h
    · exact Or.inl ⟨by rfl, by intro w hSw; go_simp; try with_reducible rfl⟩
    · assumption
    try simp only [Act.put, List.setIfInBounds_toArray, List.set_cons_zero, List.set_cons_succ]
    apply wpAnyH_take (i := 2) (v := .int .u8 x.k)
    · simp only [List.getElem?_toArray]; rfl
    · kernel_rfl
    · kernel_rfl
    · kernel_rfl
    · exact fun _ _ _ h => h
    · exact Or.inl ⟨by rfl, by intro w hSw; have d0 := ev_cell hSw 0 (evC_0 x tx rd); go_simp; try with_reducible rfl⟩
    · assumption
    try simp only [Act.put, List.setIfInBounds_toArray, List.set_cons_zero, List.set_cons_succ]
    apply wpAnyH_ready (rs := [0, 4])
    · kernel_rfl
    · simp
    refine AllReadyH.cons (o := ?o0) ?h0 ?k0 (AllReadyH.cons (o := ?o4) ?h4 ?k4 AllReadyH.nil)
    case h0 => simp only [List.getElem?_toArray]; rfl
    case h4 => simp only [List.getElem?_toArray]; rfl
    case k0 =>
      intro K hK
      rw [if_pos (by rfl)]
      go_simp
      refine (txKinds_any _).mono ?_; rintro e w3 ⟨rfl, hk3⟩
      rw [HKC.out]
      have hk3 := hk3.undrew
      have hX3 := hk3.heap HX2.out (by simp)
      go_wp2_with fail
      refine hK.out _ _ ?_ (fun hHeld => ?_)
      · exact hX3
      clear hK K
      try simp only [Act.put, List.setIfInBounds_toArray, List.set_cons_zero, List.set_cons_succ]
      apply wpAnyH_ready (rs := [3, 4])
      · kernel_rfl
      · simp
      refine AllReadyH.cons (o := ?o3q) ?h3q ?k3q (AllReadyH.cons (o := ?o4q) ?h4q ?k4q AllReadyH.nil)
      case h3q => simp only [List.getElem?_toArray]; rfl
      case h4q => simp only [List.getElem?_toArray]; rfl
      case k3q =>
        intro K hK
        rw [if_pos (by rfl)]
        go_simp
        go_wp2_with fail
        refine hK.out _ _ ?_ (fun hHeld => ?_)
        · exact hX3
        clear hK K
        try simp only [Act.put, List.setIfInBounds_toArray, List.set_cons_zero, List.set_cons_succ]
        apply wpAnyH_ready (rs := [4])
        · kernel_rfl
        · simp
        apply AllReadyH.cons (hs := AllReadyH.nil)
        · simp only [List.getElem?_toArray]; rfl
        intro K hK
        rw [if_pos (by rfl)]
        go_simp
        have hkP := hk3.alloc (.cells #[.string ⟨#[]⟩, .nilFunc, .nilFunc] 62)
        have hXP := hkP.heap HX2.out (by simp)
        have hPP := heap_alloc_new w3 (.cells #[.string ⟨#[]⟩, .nilFunc, .nilFunc] 62)
        have hBP : B < w3.heap.size := lt_of_block hX3
        have hPw : w2.heap.size ≤ w3.heap.size := hk3.size
        generalize w3.alloc (.cells #[.string ⟨#[]⟩, .nilFunc, .nilFunc] 62) = W4 at *
        generalize w3.heap.size = P at *
        refine hK.out _ _ ?_ (fun hHeld => ?_)
        · exact hXP
        clear hK K
        try simp only [Act.put, List.setIfInBounds_toArray, List.set_cons_zero, List.set_cons_succ]
        apply wpAnyH_ready (rs := [5])
        · kernel_rfl
        · simp
        apply AllReadyH.cons (hs := AllReadyH.nil)
        · simp only [List.getElem?_toArray]; rfl
        intro K hK
        rw [if_pos (by rfl)]
        refine wp_put_rowO (T := 62) 3 rfl rfl rfl hPP ⟨rfl, HZ3.out⟩ (by kernel_rfl) HO3.out ?_
        intro W5 hP5 hk5
        have hX5 := hk5.heap hXP (by simp; omega)
        have HX5 := Lib.hid hX5; have HP5 := Lib.hid hP5
        have hk25 : Keeps [] w2 W5 := hkP.trans hk5 (fun y hy => .inr (by simp at hy; omega))
        have K5 := Lib.hid (HK2.out.trans hk25 (FSub.refl _ _)); have G5 := Lib.hid (HG2.out.new hk25); have T5 := Lib.hid (HT2.out.new hk25 hN2)
        have hN5 : N ≤ W5.heap.size := Nat.le_trans hN2 hk25.size
        have hB5 : B < W5.heap.size := lt_of_block hX5
        have hP55 : P < W5.heap.size := lt_of_block hP5
        refine hK.out _ _ ?_ (fun hHeld => ?_)
        · exact hX5
        clear hK K
        try simp only [Act.put, List.setIfInBounds_toArray, List.set_cons_zero, List.set_cons_succ]
        clear hk5 hP5 hX5 hk25 hkP hXP hPP hk3 hX3
        refine wpAnyH_done (by kernel_rfl) ?_ _
        refine NoPanic.normal ?_
        have hTL0 : TL ≠ [] := HTLN.out
        have G5d := Lib.hid (G5.out.new (Keeps.refl [] W5).drew)
        have T5d := Lib.hid (T5.out.new (Keeps.refl [] W5).drew hN5)
        go_wp2_with fail
        refine wp_region_noPanic ?_
        refine wp_region_held_drew (S := fun w' => w'.heap[B]? = some (.cells (evC x tx rd) 32 (0, 0)) ∧ w'.heap[P]? = some (.cells C 62 (0, 0))) (by kernel_rfl) ⟨HX5.out, HP5.out⟩ (fun hHeld => ?_)
        apply wpAnyH_take (i := 0) (v := .pointer (some ⟨P, 0, none⟩))
        · simp only [List.getElem?_toArray]; rfl
        · kernel_rfl
        · kernel_rfl
        · kernel_rfl
        · exact fun _ _ _ h => h
        · exact Or.inl ⟨by rfl, by intro w hSw; go_simp; try with_reducible rfl⟩
        · assumption
        try simp only [Act.put, List.setIfInBounds_toArray, List.set_cons_zero, List.set_cons_succ]
        apply wpAnyH_take (i := 1) (v := .string (bs NM))
        · simp only [List.getElem?_toArray]; rfl
        · kernel_rfl
        · kernel_rfl
        · kernel_rfl
        · exact fun _ _ _ h => h
        · exact Or.inl ⟨by rfl, by intro w hSw; have d0 : w.cell? ⟨P, 0, none⟩ = some (.string (bs NM)) := (by have := hSw.2; simp [World.cell?, this, H30.out]); go_simp; try with_reducible rfl⟩
        · assumption
        try simp only [Act.put, List.setIfInBounds_toArray, List.set_cons_zero, List.set_cons_succ]
        apply wpAnyH_take (i := 3) (v := .pointer (some ⟨P, 1, none⟩))
        · simp only [List.getElem?_toArray]; rfl
        · kernel_rfl
        · kernel_rfl
        · kernel_rfl
        · exact fun _ _ _ h => h
        · exact Or.inl ⟨by rfl, by intro w hSw; go_simp; try with_reducible rfl⟩
        · assumption
        try simp only [Act.put, List.setIfInBounds_toArray, List.set_cons_zero, List.set_cons_succ]
        apply wpAnyH_take (i := 4) (v := .func (.func KW) #[] #[])
        · simp only [List.getElem?_toArray]; rfl
        · kernel_rfl
        · kernel_rfl
        · kernel_rfl
        · exact fun _ _ _ h => h
        · exact Or.inl ⟨by rfl, by intro w hSw; have d0 : w.cell? ⟨P, 1, none⟩ = some (.func (.func KW) #[] #[]) := (by have := hSw.2; simp [World.cell?, this, H31.out]); go_simp; try with_reducible rfl⟩
        · assumption
        try simp only [Act.put, List.setIfInBounds_toArray, List.set_cons_zero, List.set_cons_succ]
        apply wpAnyH_take (i := 5) (v := .agg (evC x tx rd))
        · simp only [List.getElem?_toArray]; rfl
        · kernel_rfl
        · kernel_rfl
        · kernel_rfl
        · exact fun _ _ _ h => h
        · exact yields_ev (by rfl) _ rfl B rfl (fun w hSw => ev_load hSw.1)
        · assumption
        try simp only [Act.put, List.setIfInBounds_toArray, List.set_cons_zero, List.set_cons_succ]
        apply wpAnyH_ready (rs := [2, 6])
        · kernel_rfl
        · simp
        refine AllReadyH.cons (o := ?o2r) ?h2r ?k2r (AllReadyH.cons (o := ?o6r) ?h6r ?k6r AllReadyH.nil)
        case h2r => simp only [List.getElem?_toArray]; rfl
        case h6r => simp only [List.getElem?_toArray]; rfl
        case k2r =>
          intro K hK
          rw [if_pos (by rfl)]
          go_simp
          have hrowL : RowW W5.heap.size ((W5.alloc (.cells #[.string (bs NM)] 9)).drew) (.slice (some ⟨W5.heap.size, 0, none⟩) 1 1) [NM] := World.ownsRow_lit (base := W5.heap.size) (e := 9) (size := 1) W5 #[.string (bs NM)] 1 (Nat.le_refl _) (by decide) rfl
          have hkL : Keeps [] W5 ((W5.alloc (.cells #[.string (bs NM)] 9)).drew) := ((Keeps.refl [] W5).alloc _).drew
          have hXL := hkL.heap HX5.out (by simp); have hPL := hkL.heap HP5.out (by simp)
          have hGL := G5.out.new hkL
          have hTL := T5.out.new hkL hN5
          have hNL : N ≤ ((W5.alloc (.cells #[.string (bs NM)] 9)).drew).heap.size := Nat.le_trans hN5 hkL.size
          have hBL : B < ((W5.alloc (.cells #[.string (bs NM)] 9)).drew).heap.size := lt_of_block hXL
          have hPPL : P < ((W5.alloc (.cells #[.string (bs NM)] 9)).drew).heap.size := lt_of_block hPL
          generalize (W5.alloc (.cells #[.string (bs NM)] 9)).drew = W6 at *
          refine hK.out _ _ ?_ (fun hHeld => ?_)
          · exact ⟨hXL, hPL⟩
          clear hK K
          try simp only [Act.put, List.setIfInBounds_toArray, List.set_cons_zero, List.set_cons_succ]
          apply wpAnyH_ready (rs := [6])
          · kernel_rfl
          · simp
          apply AllReadyH.cons (hs := AllReadyH.nil)
          · simp only [List.getElem?_toArray]; rfl
          intro K hK
          rw [if_pos (by rfl)]
          go_simp
          refine (HWD.out _ hGL hTL hNL).mono ?_; rintro e w7 ⟨v7, rfl, hrow7, hk7⟩
          have hk57 := hkL.trans hk7 (FSub.refl _ _)
          have hX7 := hk7.heap hXL (by simp); have hP7 := hk7.heap hPL (by simp)
          have hrowL7 := row_old hrowL hk7 (by simp)
          go_wp2_with fail
          refine hK.out _ _ ?_ (fun hHeld => ?_)
          · exact ⟨hX7, hP7⟩
          clear hK K
          try simp only [Act.put, List.setIfInBounds_toArray, List.set_cons_zero, List.set_cons_succ]
          obtain ⟨v8, w8, hr8, ho8, hk8⟩ := append_row w7 W5.heap.size hk57.size _ [NM] hrowL7 (by simp) v7 TL hrow7 (by have := HTS.out.2; omega) hTL0
          have hF8 : ∀ y ∈ own (.slice (some ⟨W5.heap.size, 0, none⟩) 1 1), W5.heap.size ≤ y := fun y hy => (row_base hrowL7 y hy).1
          have hk08 := K5.out.trans (hk57.trans hk8 (fun y hy => .inr (hF8 y hy))) (FSub.refl _ _)
          have HX8 := Lib.hid (hk8.heap hX7 (fun hm => by have := hF8 _ hm; omega)); have HP8 := Lib.hid (hk8.heap hP7 (fun hm => by have := hF8 _ hm; omega))
          clear hk8 hF8 hrowL7 hrow7 hk7 hk57 hX7 hP7 hrowL hXL hPL
          have HJ := Lib.hid (Join6_any w8 v8 (NM :: TL) 32 ho8.strs (M := 1000) HTS.out.1 (by simp only [List.length_cons]; have := HTS.out.2; omega))
          have HR8 := Lib.hid hr8; have K8 := Lib.hid hk08
          clear hr8 ho8 hk08
          apply wpAnyH_ready (rs := [7])
          · kernel_rfl
          · simp
          apply AllReadyH.cons (hs := AllReadyH.nil)
          · simp only [List.getElem?_toArray]; rfl
          intro K hK
          rw [if_pos (by rfl)]
          refine wp_append_run _ _ 50 rfl _ _ _ _ rfl rfl HR8.out ?_
          refine hK.out _ _ ?_ (fun hHeld => ?_)
          · exact ⟨HX8.out, HP8.out⟩
          clear hK K
          try simp only [Act.put, List.setIfInBounds_toArray, List.set_cons_zero, List.set_cons_succ]
          apply wpAnyH_ready (rs := [8])
          · kernel_rfl
          · simp
          apply AllReadyH.cons (hs := AllReadyH.nil)
          · simp only [List.getElem?_toArray]; rfl
          intro K hK
          rw [if_pos (by rfl)]
          go_simp
          refine HJ.out.mono ?_; rintro e w9 ⟨rfl, hk9⟩
          have hk09 := K8.out.trans hk9 (FSub.refl _ _)
          have hX9 := hk9.heap HX8.out (by simp); have hP9 := hk9.heap HP8.out (by simp)
          go_wp2_with fail
          refine hK.out _ _ ?_ (fun hHeld => ?_)
          · exact ⟨hX9, hP9⟩
          clear hK K
          try simp only [Act.put, List.setIfInBounds_toArray, List.set_cons_zero, List.set_cons_succ]
          apply wpAnyH_ready (rs := [9])
          · kernel_rfl
          · simp
          apply AllReadyH.cons (hs := AllReadyH.nil)
          · simp only [List.getElem?_toArray]; rfl
          intro K hK
          rw [if_pos (by rfl)]
          go_simp
          refine hK.out _ _ ?_ (fun hHeld => ?_)
          · exact ⟨hX9, hP9⟩
          clear hK K
          try simp only [Act.put, List.setIfInBounds_toArray, List.set_cons_zero, List.set_cons_succ]
          apply wpAnyH_ready (rs := [10])
          · kernel_rfl
          · simp
          apply AllReadyH.cons (hs := AllReadyH.nil)
          · simp only [List.getElem?_toArray]; rfl
          intro K hK
          rw [if_pos (by rfl)]
          go_simp
          refine hK.out _ _ ?_ (fun hHeld => ?_)
          · exact ⟨hX9, hP9⟩
          clear hK K
          try simp only [Act.put, List.setIfInBounds_toArray, List.set_cons_zero, List.set_cons_succ]
          refine wpAnyH_done (by kernel_rfl) ?_ _
          refine NoPanic.normal ?_
          go_wp2_with fail
          go_ret2
          exact ⟨by rw [HRS.out]; rfl, hk09⟩
        case k6r =>
          intro K hK
          rw [if_pos (by rfl)]
          go_simp
          refine (HWD.out _ G5d.out T5d.out hN5).mono ?_; rintro e w7 ⟨v7, rfl, hrow7, hk7⟩
          have hk57 : Keeps [] W5 w7 := hk7.undrew
          have hX7 := hk57.heap HX5.out (by simp); have hP7 := hk57.heap HP5.out (by simp)
          have hB7 : B < w7.heap.size := lt_of_block hX7
          have hP77 : P < w7.heap.size := lt_of_block hP7
          go_wp2_with fail
          refine hK.out _ _ ?_ (fun hHeld => ?_)
          · exact ⟨hX7, hP7⟩
          clear hK K
          try simp only [Act.put, List.setIfInBounds_toArray, List.set_cons_zero, List.set_cons_succ]
          have hrowL : RowW w7.heap.size (w7.alloc (.cells #[.string (bs NM)] 9)) (.slice (some ⟨w7.heap.size, 0, none⟩) 1 1) [NM] := World.ownsRow_lit (base := w7.heap.size) (e := 9) (size := 1) w7 #[.string (bs NM)] 1 (Nat.le_refl _) (by decide) rfl
          have hkL : Keeps [] w7 (w7.alloc (.cells #[.string (bs NM)] 9)) := (Keeps.refl [] w7).alloc _
          have hXL := hkL.heap hX7 (by simp); have hPL := hkL.heap hP7 (by simp)
          have hrow7L := row_old hrow7 hkL (by simp)
          apply wpAnyH_ready (rs := [2])
          · kernel_rfl
          · simp
          apply AllReadyH.cons (hs := AllReadyH.nil)
          · simp only [List.getElem?_toArray]; rfl
          intro K hK
          rw [if_pos (by rfl)]
          go_simp
          generalize w7.alloc (.cells #[.string (bs NM)] 9) = W6 at *
          refine hK.out _ _ ?_ (fun hHeld => ?_)
          · exact ⟨hXL, hPL⟩
          clear hK K
          try simp only [Act.put, List.setIfInBounds_toArray, List.set_cons_zero, List.set_cons_succ]
          obtain ⟨v8, w8, hr8, ho8, hk8⟩ := append_row W6 w7.heap.size hkL.size _ [NM] hrowL (by simp) v7 TL hrow7L (by have := HTS.out.2; omega) hTL0
          have hF8 : ∀ y ∈ own (.slice (some ⟨w7.heap.size, 0, none⟩) 1 1), w7.heap.size ≤ y := fun y hy => (row_base hrowL y hy).1
          have hk08 := K5.out.trans ((hk57.trans hkL (FSub.refl _ _)).trans hk8 (fun y hy => .inr (by have := hF8 y hy; have := hk57.size; omega))) (FSub.refl _ _)
          have HX8 := Lib.hid (hk8.heap hXL (fun hm => by have := hF8 _ hm; omega)); have HP8 := Lib.hid (hk8.heap hPL (fun hm => by have := hF8 _ hm; omega))
          clear hk8 hF8 hrow7L hrow7 hk7 hk57 hX7 hP7 hrowL hXL hPL hkL
          have HJ := Lib.hid (Join6_any w8 v8 (NM :: TL) 32 ho8.strs (M := 1000) HTS.out.1 (by simp only [List.length_cons]; have := HTS.out.2; omega))
          have HR8 := Lib.hid hr8; have K8 := Lib.hid hk08
          clear hr8 ho8 hk08
          apply wpAnyH_ready (rs := [7])
          · kernel_rfl
          · simp
          apply AllReadyH.cons (hs := AllReadyH.nil)
          · simp only [List.getElem?_toArray]; rfl
          intro K hK
          rw [if_pos (by rfl)]
          refine wp_append_run _ _ 50 rfl _ _ _ _ rfl rfl HR8.out ?_
          refine hK.out _ _ ?_ (fun hHeld => ?_)
          · exact ⟨HX8.out, HP8.out⟩
          clear hK K
          try simp only [Act.put, List.setIfInBounds_toArray, List.set_cons_zero, List.set_cons_succ]
          apply wpAnyH_ready (rs := [8])
          · kernel_rfl
          · simp
          apply AllReadyH.cons (hs := AllReadyH.nil)
          · simp only [List.getElem?_toArray]; rfl
          intro K hK
          rw [if_pos (by rfl)]
          go_simp
          refine HJ.out.mono ?_; rintro e w9 ⟨rfl, hk9⟩
          have hk09 := K8.out.trans hk9 (FSub.refl _ _)
          have hX9 := hk9.heap HX8.out (by simp); have hP9 := hk9.heap HP8.out (by simp)
          go_wp2_with fail
          refine hK.out _ _ ?_ (fun hHeld => ?_)
          · exact ⟨hX9, hP9⟩
          clear hK K
          try simp only [Act.put, List.setIfInBounds_toArray, List.set_cons_zero, List.set_cons_succ]
          apply wpAnyH_ready (rs := [9])
          · kernel_rfl
          · simp
          apply AllReadyH.cons (hs := AllReadyH.nil)
          · simp only [List.getElem?_toArray]; rfl
          intro K hK
          rw [if_pos (by rfl)]
          go_simp
          refine hK.out _ _ ?_ (fun hHeld => ?_)
          · exact ⟨hX9, hP9⟩
          clear hK K
          try simp only [Act.put, List.setIfInBounds_toArray, List.set_cons_zero, List.set_cons_succ]
          apply wpAnyH_ready (rs := [10])
          · kernel_rfl
          · simp
          apply AllReadyH.cons (hs := AllReadyH.nil)
          · simp only [List.getElem?_toArray]; rfl
          intro K hK
          rw [if_pos (by rfl)]
          go_simp
          refine hK.out _ _ ?_ (fun hHeld => ?_)
          · exact ⟨hX9, hP9⟩
          clear hK K
          try simp only [Act.put, List.setIfInBounds_toArray, List.set_cons_zero, List.set_cons_succ]
          refine wpAnyH_done (by kernel_rfl) ?_ _
          refine NoPanic.normal ?_
          go_wp2_with fail
          go_ret2
          exact ⟨by rw [HRS.out]; rfl, hk09⟩
      case k4q =>
        intro K hK
        rw [if_pos (by rfl)]
        go_simp
        have hkP := hk3.alloc (.cells #[.string ⟨#[]⟩, .nilFunc, .nilFunc] 62)
        have hXP := hkP.heap HX2.out (by simp)
        have hPP := heap_alloc_new w3 (.cells #[.string ⟨#[]⟩, .nilFunc, .nilFunc] 62)
        have hBP : B < w3.heap.size := lt_of_block hX3
        have hPw : w2.heap.size ≤ w3.heap.size := hk3.size
        generalize w3.alloc (.cells #[.string ⟨#[]⟩, .nilFunc, .nilFunc] 62) = W4 at *
        generalize w3.heap.size = P at *
        refine hK.out _ _ ?_ (fun hHeld => ?_)
        · exact hXP
        clear hK K
        try simp only [Act.put, List.setIfInBounds_toArray, List.set_cons_zero, List.set_cons_succ]
        apply wpAnyH_ready (rs := [3])
        · kernel_rfl
        · simp
        apply AllReadyH.cons (hs := AllReadyH.nil)
        · simp only [List.getElem?_toArray]; rfl
        intro K hK
        rw [if_pos (by rfl)]
        go_simp
        go_wp2_with fail
        refine hK.out _ _ ?_ (fun hHeld => ?_)
        · exact hXP
        clear hK K
        try simp only [Act.put, List.setIfInBounds_toArray, List.set_cons_zero, List.set_cons_succ]
        apply wpAnyH_ready (rs := [5])
        · kernel_rfl
        · simp
        apply AllReadyH.cons (hs := AllReadyH.nil)
        · simp only [List.getElem?_toArray]; rfl
        intro K hK
        rw [if_pos (by rfl)]
        refine wp_put_rowO (T := 62) 3 rfl rfl rfl hPP ⟨rfl, HZ3.out⟩ (by kernel_rfl) HO3.out ?_
        intro W5 hP5 hk5
        have hX5 := hk5.heap hXP (by simp; omega)
        have HX5 := Lib.hid hX5; have HP5 := Lib.hid hP5
        have hk25 : Keeps [] w2 W5 := hkP.trans hk5 (fun y hy => .inr (by simp at hy; omega))
        have K5 := Lib.hid (HK2.out.trans hk25 (FSub.refl _ _)); have G5 := Lib.hid (HG2.out.new hk25); have T5 := Lib.hid (HT2.out.new hk25 hN2)
        have hN5 : N ≤ W5.heap.size := Nat.le_trans hN2 hk25.size
        have hB5 : B < W5.heap.size := lt_of_block hX5
        have hP55 : P < W5.heap.size := lt_of_block hP5
        refine hK.out _ _ ?_ (fun hHeld => ?_)
        · exact hX5
        clear hK K
        try simp only [Act.put, List.setIfInBounds_toArray, List.set_cons_zero, List.set_cons_succ]
        clear hk5 hP5 hX5 hk25 hkP hXP hPP hk3 hX3
        refine wpAnyH_done (by kernel_rfl) ?_ _
        refine NoPanic.normal ?_
        have hTL0 : TL ≠ [] := HTLN.out
        have G5d := Lib.hid (G5.out.new (Keeps.refl [] W5).drew)
        have T5d := Lib.hid (T5.out.new (Keeps.refl [] W5).drew hN5)
        go_wp2_with fail
        refine wp_region_noPanic ?_
        refine wp_region_held_drew (S := fun w' => w'.heap[B]? = some (.cells (evC x tx rd) 32 (0, 0)) ∧ w'.heap[P]? = some (.cells C 62 (0, 0))) (by kernel_rfl) ⟨HX5.out, HP5.out⟩ (fun hHeld => ?_)
        apply wpAnyH_take (i := 0) (v := .pointer (some ⟨P, 0, none⟩))
        · simp only [List.getElem?_toArray]; rfl
        · kernel_rfl
        · kernel_rfl
        · kernel_rfl
        · exact fun _ _ _ h => h
        · exact Or.inl ⟨by rfl, by intro w hSw; go_simp; try with_reducible rfl⟩
        · assumption
        try simp only [Act.put, List.setIfInBounds_toArray, List.set_cons_zero, List.set_cons_succ]
        apply wpAnyH_take (i := 1) (v := .string (bs NM))
        · simp only [List.getElem?_toArray]; rfl
        · kernel_rfl
        · kernel_rfl
        · kernel_rfl
        · exact fun _ _ _ h => h
        · exact Or.inl ⟨by rfl, by intro w hSw; have d0 : w.cell? ⟨P, 0, none⟩ = some (.string (bs NM)) := (by have := hSw.2; simp [World.cell?, this, H30.out]); go_simp; try with_reducible rfl⟩
        · assumption
        try simp only [Act.put, List.setIfInBounds_toArray, List.set_cons_zero, List.set_cons_succ]
        apply wpAnyH_take (i := 3) (v := .pointer (some ⟨P, 1, none⟩))
        · simp only [List.getElem?_toArray]; rfl
        · kernel_rfl
        · kernel_rfl
        · kernel_rfl
        · exact fun _ _ _ h => h
        · exact Or.inl ⟨by rfl, by intro w hSw; go_simp; try with_reducible rfl⟩
        · assumption
        try simp only [Act.put, List.setIfInBounds_toArray, List.set_cons_zero, List.set_cons_succ]
        apply wpAnyH_take (i := 4) (v := .func (.func KW) #[] #[])
        · simp only [List.getElem?_toArray]; rfl
        · kernel_rfl
        · kernel_rfl
        · kernel_rfl
        · exact fun _ _ _ h => h
        · exact Or.inl ⟨by rfl, by intro w hSw; have d0 : w.cell? ⟨P, 1, none⟩ = some (.func (.func KW) #[] #[]) := (by have := hSw.2; simp [World.cell?, this, H31.out]); go_simp; try with_reducible rfl⟩
        · assumption
        try simp only [Act.put, List.setIfInBounds_toArray, List.set_cons_zero, List.set_cons_succ]
        apply wpAnyH_take (i := 5) (v := .agg (evC x tx rd))
        · simp only [List.getElem?_toArray]; rfl
        · kernel_rfl
        · kernel_rfl
        · kernel_rfl
        · exact fun _ _ _ h => h
        · exact yields_ev (by rfl) _ rfl B rfl (fun w hSw => ev_load hSw.1)
        · assumption
        try simp only [Act.put, List.setIfInBounds_toArray, List.set_cons_zero, List.set_cons_succ]
        apply wpAnyH_ready (rs := [2, 6])
        · kernel_rfl
        · simp
        refine AllReadyH.cons (o := ?o2r) ?h2r ?k2r (AllReadyH.cons (o := ?o6r) ?h6r ?k6r AllReadyH.nil)
        case h2r => simp only [List.getElem?_toArray]; rfl
        case h6r => simp only [List.getElem?_toArray]; rfl
        case k2r =>
          intro K hK
          rw [if_pos (by rfl)]
          go_simp
          have hrowL : RowW W5.heap.size ((W5.alloc (.cells #[.string (bs NM)] 9)).drew) (.slice (some ⟨W5.heap.size, 0, none⟩) 1 1) [NM] := World.ownsRow_lit (base := W5.heap.size) (e := 9) (size := 1) W5 #[.string (bs NM)] 1 (Nat.le_refl _) (by decide) rfl
          have hkL : Keeps [] W5 ((W5.alloc (.cells #[.string (bs NM)] 9)).drew) := ((Keeps.refl [] W5).alloc _).drew
          have hXL := hkL.heap HX5.out (by simp); have hPL := hkL.heap HP5.out (by simp)
          have hGL := G5.out.new hkL
          have hTL := T5.out.new hkL hN5
          have hNL : N ≤ ((W5.alloc (.cells #[.string (bs NM)] 9)).drew).heap.size := Nat.le_trans hN5 hkL.size
          have hBL : B < ((W5.alloc (.cells #[.string (bs NM)] 9)).drew).heap.size := lt_of_block hXL
          have hPPL : P < ((W5.alloc (.cells #[.string (bs NM)] 9)).drew).heap.size := lt_of_block hPL
          generalize (W5.alloc (.cells #[.string (bs NM)] 9)).drew = W6 at *
          refine hK.out _ _ ?_ (fun hHeld => ?_)
          · exact ⟨hXL, hPL⟩
          clear hK K
          try simp only [Act.put, List.setIfInBounds_toArray, List.set_cons_zero, List.set_cons_succ]
          apply wpAnyH_ready (rs := [6])
          · kernel_rfl
          · simp
          apply AllReadyH.cons (hs := AllReadyH.nil)
          · simp only [List.getElem?_toArray]; rfl
          intro K hK
          rw [if_pos (by rfl)]
          go_simp
          refine (HWD.out _ hGL hTL hNL).mono ?_; rintro e w7 ⟨v7, rfl, hrow7, hk7⟩
          have hk57 := hkL.trans hk7 (FSub.refl _ _)
          have hX7 := hk7.heap hXL (by simp); have hP7 := hk7.heap hPL (by simp)
          have hrowL7 := row_old hrowL hk7 (by simp)
          go_wp2_with fail
          refine hK.out _ _ ?_ (fun hHeld => ?_)
          · exact ⟨hX7, hP7⟩
          clear hK K
          try simp only [Act.put, List.setIfInBounds_toArray, List.set_cons_zero, List.set_cons_succ]
          obtain ⟨v8, w8, hr8, ho8, hk8⟩ := append_row w7 W5.heap.size hk57.size _ [NM] hrowL7 (by simp) v7 TL hrow7 (by have := HTS.out.2; omega) hTL0
          have hF8 : ∀ y ∈ own (.slice (some ⟨W5.heap.size, 0, none⟩) 1 1), W5.heap.size ≤ y := fun y hy => (row_base hrowL7 y hy).1
          have hk08 := K5.out.trans (hk57.trans hk8 (fun y hy => .inr (hF8 y hy))) (FSub.refl _ _)
          have HX8 := Lib.hid (hk8.heap hX7 (fun hm => by have := hF8 _ hm; omega)); have HP8 := Lib.hid (hk8.heap hP7 (fun hm => by have := hF8 _ hm; omega))
          clear hk8 hF8 hrowL7 hrow7 hk7 hk57 hX7 hP7 hrowL hXL hPL
          have HJ := Lib.hid (Join6_any w8 v8 (NM :: TL) 32 ho8.strs (M := 1000) HTS.out.1 (by simp only [List.length_cons]; have := HTS.out.2; omega))
          have HR8 := Lib.hid hr8; have K8 := Lib.hid hk08
          clear hr8 ho8 hk08
          apply wpAnyH_ready (rs := [7])
          · kernel_rfl
          · simp
          apply AllReadyH.cons (hs := AllReadyH.nil)
          · simp only [List.getElem?_toArray]; rfl
          intro K hK
          rw [if_pos (by rfl)]
          refine wp_append_run _ _ 50 rfl _ _ _ _ rfl rfl HR8.out ?_
          refine hK.out _ _ ?_ (fun hHeld => ?_)
          · exact ⟨HX8.out, HP8.out⟩
          clear hK K
          try simp only [Act.put, List.setIfInBounds_toArray, List.set_cons_zero, List.set_cons_succ]
          apply wpAnyH_ready (rs := [8])
          · kernel_rfl
          · simp
          apply AllReadyH.cons (hs := AllReadyH.nil)
          · simp only [List.getElem?_toArray]; rfl
          intro K hK
          rw [if_pos (by rfl)]
          go_simp
          refine HJ.out.mono ?_; rintro e w9 ⟨rfl, hk9⟩
          have hk09 := K8.out.trans hk9 (FSub.refl _ _)
          have hX9 := hk9.heap HX8.out (by simp); have hP9 := hk9.heap HP8.out (by simp)
          go_wp2_with fail
          refine hK.out _ _ ?_ (fun hHeld => ?_)
          · exact ⟨hX9, hP9⟩
          clear hK K
          try simp only [Act.put, List.setIfInBounds_toArray, List.set_cons_zero, List.set_cons_succ]
          apply wpAnyH_ready (rs := [9])
          · kernel_rfl
          · simp
          apply AllReadyH.cons (hs := AllReadyH.nil)
          · simp only [List.getElem?_toArray]; rfl
          intro K hK
          rw [if_pos (by rfl)]
          go_simp
          refine hK.out _ _ ?_ (fun hHeld => ?_)
          · exact ⟨hX9, hP9⟩
          clear hK K
          try simp only [Act.put, List.setIfInBounds_toArray, List.set_cons_zero, List.set_cons_succ]
          apply wpAnyH_ready (rs := [10])
          · kernel_rfl
          · simp
          apply AllReadyH.cons (hs := AllReadyH.nil)
          · simp only [List.getElem?_toArray]; rfl
          intro K hK
          rw [if_pos (by rfl)]
          go_simp
          refine hK.out _ _ ?_ (fun hHeld => ?_)
          · exact ⟨hX9, hP9⟩
          clear hK K
          try simp only [Act.put, List.setIfInBounds_toArray, List.set_cons_zero, List.set_cons_succ]
          refine wpAnyH_done (by kernel_rfl) ?_ _
          refine NoPanic.normal ?_
          go_wp2_with fail
          go_ret2
          exact ⟨by rw [HRS.out]; rfl, hk09⟩
        case k6r =>
          intro K hK
          rw [if_pos (by rfl)]
          go_simp
          refine (HWD.out _ G5d.out T5d.out hN5).mono ?_; rintro e w7 ⟨v7, rfl, hrow7, hk7⟩
          have hk57 : Keeps [] W5 w7 := hk7.undrew
          have hX7 := hk57.heap HX5.out (by simp); have hP7 := hk57.heap HP5.out (by simp)
          have hB7 : B < w7.heap.size := lt_of_block hX7
          have hP77 : P < w7.heap.size := lt_of_block hP7
          go_wp2_with fail
          refine hK.out _ _ ?_ (fun hHeld => ?_)
          · exact ⟨hX7, hP7⟩
          clear hK K
          try simp only [Act.put, List.setIfInBounds_toArray, List.set_cons_zero, List.set_cons_succ]
          have hrowL : RowW w7.heap.size (w7.alloc (.cells #[.string (bs NM)] 9)) (.slice (some ⟨w7.heap.size, 0, none⟩) 1 1) [NM] := World.ownsRow_lit (base := w7.heap.size) (e := 9) (size := 1) w7 #[.string (bs NM)] 1 (Nat.le_refl _) (by decide) rfl
          have hkL : Keeps [] w7 (w7.alloc (.cells #[.string (bs NM)] 9)) := (Keeps.refl [] w7).alloc _
          have hXL := hkL.heap hX7 (by simp); have hPL := hkL.heap hP7 (by simp)
          have hrow7L := row_old hrow7 hkL (by simp)
          apply wpAnyH_ready (rs := [2])
          · kernel_rfl
          · simp
          apply AllReadyH.cons (hs := AllReadyH.nil)
          · simp only [List.getElem?_toArray]; rfl
          intro K hK
          rw [if_pos (by rfl)]
          go_simp
          generalize w7.alloc (.cells #[.string (bs NM)] 9) = W6 at *
          refine hK.out _ _ ?_ (fun hHeld => ?_)
          · exact ⟨hXL, hPL⟩
          clear hK K
          try simp only [Act.put, List.setIfInBounds_toArray, List.set_cons_zero, List.set_cons_succ]
          obtain ⟨v8, w8, hr8, ho8, hk8⟩ := append_row W6 w7.heap.size hkL.size _ [NM] hrowL (by simp) v7 TL hrow7L (by have := HTS.out.2; omega) hTL0
          have hF8 : ∀ y ∈ own (.slice (some ⟨w7.heap.size, 0, none⟩) 1 1), w7.heap.size ≤ y := fun y hy => (row_base hrowL y hy).1
          have hk08 := K5.out.trans ((hk57.trans hkL (FSub.refl _ _)).trans hk8 (fun y hy => .inr (by have := hF8 y hy; have := hk57.size; omega))) (FSub.refl _ _)
          have HX8 := Lib.hid (hk8.heap hXL (fun hm => by have := hF8 _ hm; omega)); have HP8 := Lib.hid (hk8.heap hPL (fun hm => by have := hF8 _ hm; omega))
          clear hk8 hF8 hrow7L hrow7 hk7 hk57 hX7 hP7 hrowL hXL hPL hkL
          have HJ := Lib.hid (Join6_any w8 v8 (NM :: TL) 32 ho8.strs (M := 1000) HTS.out.1 (by simp only [List.length_cons]; have := HTS.out.2; omega))
          have HR8 := Lib.hid hr8; have K8 := Lib.hid hk08
          clear hr8 ho8 hk08
          apply wpAnyH_ready (rs := [7])
          · kernel_rfl
          · simp
          apply AllReadyH.cons (hs := AllReadyH.nil)
          · simp only [List.getElem?_toArray]; rfl
          intro K hK
          rw [if_pos (by rfl)]
          refine wp_append_run _ _ 50 rfl _ _ _ _ rfl rfl HR8.out ?_
          refine hK.out _ _ ?_ (fun hHeld => ?_)
          · exact ⟨HX8.out, HP8.out⟩
          clear hK K
          try simp only [Act.put, List.setIfInBounds_toArray, List.set_cons_zero, List.set_cons_succ]
          apply wpAnyH_ready (rs := [8])
          · kernel_rfl
          · simp
          apply AllReadyH.cons (hs := AllReadyH.nil)
          · simp only [List.getElem?_toArray]; rfl
          intro K hK
          rw [if_pos (by rfl)]
          go_simp
          refine HJ.out.mono ?_; rintro e w9 ⟨rfl, hk9⟩
          have hk09 := K8.out.trans hk9 (FSub.refl _ _)
          have hX9 := hk9.heap HX8.out (by simp); have hP9 := hk9.heap HP8.out (by simp)
          go_wp2_with fail
          refine hK.out _ _ ?_ (fun hHeld => ?_)
          · exact ⟨hX9, hP9⟩
          clear hK K
          try simp only [Act.put, List.setIfInBounds_toArray, List.set_cons_zero, List.set_cons_succ]
          apply wpAnyH_ready (rs := [9])
          · kernel_rfl
          · simp
          apply AllReadyH.cons (hs := AllReadyH.nil)
          · simp only [List.getElem?_toArray]; rfl
          intro K hK
          rw [if_pos (by rfl)]
          go_simp
          refine hK.out _ _ ?_ (fun hHeld => ?_)
          · exact ⟨hX9, hP9⟩
          clear hK K
          try simp only [Act.put, List.setIfInBounds_toArray, List.set_cons_zero, List.set_cons_succ]
          apply wpAnyH_ready (rs := [10])
          · kernel_rfl
          · simp
          apply AllReadyH.cons (hs := AllReadyH.nil)
          · simp only [List.getElem?_toArray]; rfl
          intro K hK
          rw [if_pos (by rfl)]
          go_simp
          refine hK.out _ _ ?_ (fun hHeld => ?_)
          · exact ⟨hX9, hP9⟩
          clear hK K
          try simp only [Act.put, List.setIfInBounds_toArray, List.set_cons_zero, List.set_cons_succ]
          refine wpAnyH_done (by kernel_rfl) ?_ _
          refine NoPanic.normal ?_
          go_wp2_with fail
          go_ret2
          exact ⟨by rw [HRS.out]; rfl, hk09⟩
    case k4 =>
      intro K hK
      rw [if_pos (by rfl)]
      go_simp
      have hk3 : Keeps [] w2 ((w2.alloc (.cells #[.string ⟨#[]⟩, .nilFunc, .nilFunc] 62)).drew) := ((Keeps.refl [] w2).alloc _).drew
      have hX3 := hk3.heap HX2.out (by simp)
      have hP3 := heap_alloc_new w2 (.cells #[.string ⟨#[]⟩, .nilFunc, .nilFunc] 62)
      replace hP3 : ((w2.alloc (.cells #[.string ⟨#[]⟩, .nilFunc, .nilFunc] 62)).drew).heap[w2.heap.size]? = some (.cells #[.string ⟨#[]⟩, .nilFunc, .nilFunc] 62 (0, 0)) := hP3
      generalize (w2.alloc (.cells #[.string ⟨#[]⟩, .nilFunc, .nilFunc] 62)).drew = w3 at *
      have hPw : w2.heap.size ≤ w2.heap.size := Nat.le_refl _
      have hBP : B < w2.heap.size := hBw
      generalize hPe : w2.heap.size = P at *
      replace hN2 : N ≤ w2.heap.size := by omega
      replace hPw : w2.heap.size ≤ P := by omega
      refine hK.out _ _ ?_ (fun hHeld => ?_)
      · exact hX3
      clear hK K
      try simp only [Act.put, List.setIfInBounds_toArray, List.set_cons_zero, List.set_cons_succ]
      apply wpAnyH_ready (rs := [0])
      · kernel_rfl
      · simp
      apply AllReadyH.cons (hs := AllReadyH.nil)
      · simp only [List.getElem?_toArray]; rfl
      intro K hK
      rw [if_pos (by rfl)]
      go_simp
      refine (txKinds_any _).mono ?_; rintro e W4 ⟨rfl, hk4⟩
      rw [HKC.out]
      have hkP := hk3.trans hk4 (FSub.refl _ _)
      have hXP := hk4.heap hX3 (by simp)
      have hPP := hk4.heap hP3 (by simp)
      go_wp2_with fail
      refine hK.out _ _ ?_ (fun hHeld => ?_)
      · exact hXP
      clear hK K
      try simp only [Act.put, List.setIfInBounds_toArray, List.set_cons_zero, List.set_cons_succ]
      apply wpAnyH_ready (rs := [3])
      · kernel_rfl
      · simp
      apply AllReadyH.cons (hs := AllReadyH.nil)
      · simp only [List.getElem?_toArray]; rfl
      intro K hK
      rw [if_pos (by rfl)]
      go_simp
      go_wp2_with fail
      refine hK.out _ _ ?_ (fun hHeld => ?_)
      · exact hXP
      clear hK K
      try simp only [Act.put, List.setIfInBounds_toArray, List.set_cons_zero, List.set_cons_succ]
      apply wpAnyH_ready (rs := [5])
      · kernel_rfl
      · simp
      apply AllReadyH.cons (hs := AllReadyH.nil)
      · simp only [List.getElem?_toArray]; rfl
      intro K hK
      rw [if_pos (by rfl)]
      refine wp_put_rowO (T := 62) 3 rfl rfl rfl hPP ⟨rfl, HZ3.out⟩ (by kernel_rfl) HO3.out ?_
      intro W5 hP5 hk5
      have hX5 := hk5.heap hXP (by simp; omega)
      have HX5 := Lib.hid hX5; have HP5 := Lib.hid hP5
      have hk25 : Keeps [] w2 W5 := hkP.trans hk5 (fun y hy => .inr (by simp at hy; omega))
      have K5 := Lib.hid (HK2.out.trans hk25 (FSub.refl _ _)); have G5 := Lib.hid (HG2.out.new hk25); have T5 := Lib.hid (HT2.out.new hk25 hN2)
      have hN5 : N ≤ W5.heap.size := Nat.le_trans hN2 hk25.size
      have hB5 : B < W5.heap.size := lt_of_block hX5
      have hP55 : P < W5.heap.size := lt_of_block hP5
      refine hK.out _ _ ?_ (fun hHeld => ?_)
      · exact hX5
      clear hK K
      try simp only [Act.put, List.setIfInBounds_toArray, List.set_cons_zero, List.set_cons_succ]
      clear hk5 hP5 hX5 hk25 hkP hXP hPP hk3 hX3
      refine wpAnyH_done (by kernel_rfl) ?_ _
      refine NoPanic.normal ?_
      have hTL0 : TL ≠ [] := HTLN.out
      have G5d := Lib.hid (G5.out.new (Keeps.refl [] W5).drew)
      have T5d := Lib.hid (T5.out.new (Keeps.refl [] W5).drew hN5)
      go_wp2_with fail
      refine wp_region_noPanic ?_
      refine wp_region_held_drew (S := fun w' => w'.heap[B]? = some (.cells (evC x tx rd) 32 (0, 0)) ∧ w'.heap[P]? = some (.cells C 62 (0, 0))) (by kernel_rfl) ⟨HX5.out, HP5.out⟩ (fun hHeld => ?_)
      apply wpAnyH_take (i := 0) (v := .pointer (some ⟨P, 0, none⟩))
      · simp only [List.getElem?_toArray]; rfl
      · kernel_rfl
      · kernel_rfl
      · kernel_rfl
      · exact fun _ _ _ h => h
      · exact Or.inl ⟨by rfl, by intro w hSw; go_simp; try with_reducible rfl⟩
      · assumption
      try simp only [Act.put, List.setIfInBounds_toArray, List.set_cons_zero, List.set_cons_succ]
      apply wpAnyH_take (i := 1) (v := .string (bs NM))
      · simp only [List.getElem?_toArray]; rfl
      · kernel_rfl
      · kernel_rfl
      · kernel_rfl
      · exact fun _ _ _ h => h
      · exact Or.inl ⟨by rfl, by intro w hSw; have d0 : w.cell? ⟨P, 0, none⟩ = some (.string (bs NM)) := (by have := hSw.2; simp [World.cell?, this, H30.out]); go_simp; try with_reducible rfl⟩
      · assumption
      try simp only [Act.put, List.setIfInBounds_toArray, List.set_cons_zero, List.set_cons_succ]
      apply wpAnyH_take (i := 3) (v := .pointer (some ⟨P, 1, none⟩))
      · simp only [List.getElem?_toArray]; rfl
      · kernel_rfl
      · kernel_rfl
      · kernel_rfl
      · exact fun _ _ _ h => h
      · exact Or.inl ⟨by rfl, by intro w hSw; go_simp; try with_reducible rfl⟩
      · assumption
      try simp only [Act.put, List.setIfInBounds_toArray, List.set_cons_zero, List.set_cons_succ]
      apply wpAnyH_take (i := 4) (v := .func (.func KW) #[] #[])
      · simp only [List.getElem?_toArray]; rfl
      · kernel_rfl
      · kernel_rfl
      · kernel_rfl
      · exact fun _ _ _ h => h
      · exact Or.inl ⟨by rfl, by intro w hSw; have d0 : w.cell? ⟨P, 1, none⟩ = some (.func (.func KW) #[] #[]) := (by have := hSw.2; simp [World.cell?, this, H31.out]); go_simp; try with_reducible rfl⟩
      · assumption
      try simp only [Act.put, List.setIfInBounds_toArray, List.set_cons_zero, List.set_cons_succ]
      apply wpAnyH_take (i := 5) (v := .agg (evC x tx rd))
      · simp only [List.getElem?_toArray]; rfl
      · kernel_rfl
      · kernel_rfl
      · kernel_rfl
      · exact fun _ _ _ h => h
      · exact yields_ev (by rfl) _ rfl B rfl (fun w hSw => ev_load hSw.1)
      · assumption
      try simp only [Act.put, List.setIfInBounds_toArray, List.set_cons_zero, List.set_cons_succ]
      apply wpAnyH_ready (rs := [2, 6])
      · kernel_rfl
      · simp
      refine AllReadyH.cons (o := ?o2r) ?h2r ?k2r (AllReadyH.cons (o := ?o6r) ?h6r ?k6r AllReadyH.nil)
      case h2r => simp only [List.getElem?_toArray]; rfl
      case h6r => simp only [List.getElem?_toArray]; rfl
      case k2r =>
        intro K hK
        rw [if_pos (by rfl)]
        go_simp
        have hrowL : RowW W5.heap.size ((W5.alloc (.cells #[.string (bs NM)] 9)).drew) (.slice (some ⟨W5.heap.size, 0, none⟩) 1 1) [NM] := World.ownsRow_lit (base := W5.heap.size) (e := 9) (size := 1) W5 #[.string (bs NM)] 1 (Nat.le_refl _) (by decide) rfl
        have hkL : Keeps [] W5 ((W5.alloc (.cells #[.string (bs NM)] 9)).drew) := ((Keeps.refl [] W5).alloc _).drew
        have hXL := hkL.heap HX5.out (by simp); have hPL := hkL.heap HP5.out (by simp)
        have hGL := G5.out.new hkL
        have hTL := T5.out.new hkL hN5
        have hNL : N ≤ ((W5.alloc (.cells #[.string (bs NM)] 9)).drew).heap.size := Nat.le_trans hN5 hkL.size
        have hBL : B < ((W5.alloc (.cells #[.string (bs NM)] 9)).drew).heap.size := lt_of_block hXL
        have hPPL : P < ((W5.alloc (.cells #[.string (bs NM)] 9)).drew).heap.size := lt_of_block hPL
        generalize (W5.alloc (.cells #[.string (bs NM)] 9)).drew = W6 at *
        refine hK.out _ _ ?_ (fun hHeld => ?_)
        · exact ⟨hXL, hPL⟩
        clear hK K
        try simp only [Act.put, List.setIfInBounds_toArray, List.set_cons_zero, List.set_cons_succ]
        apply wpAnyH_ready (rs := [6])
        · kernel_rfl
        · simp
        apply AllReadyH.cons (hs := AllReadyH.nil)
        · simp only [List.getElem?_toArray]; rfl
        intro K hK
        rw [if_pos (by rfl)]
        go_simp
        refine (HWD.out _ hGL hTL hNL).mono ?_; rintro e w7 ⟨v7, rfl, hrow7, hk7⟩
        have hk57 := hkL.trans hk7 (FSub.refl _ _)
        have hX7 := hk7.heap hXL (by simp); have hP7 := hk7.heap hPL (by simp)
        have hrowL7 := row_old hrowL hk7 (by simp)
        go_wp2_with fail
        refine hK.out _ _ ?_ (fun hHeld => ?_)
        · exact ⟨hX7, hP7⟩
        clear hK K
        try simp only [Act.put, List.setIfInBounds_toArray, List.set_cons_zero, List.set_cons_succ]
        obtain ⟨v8, w8, hr8, ho8, hk8⟩ := append_row w7 W5.heap.size hk57.size _ [NM] hrowL7 (by simp) v7 TL hrow7 (by have := HTS.out.2; omega) hTL0
        have hF8 : ∀ y ∈ own (.slice (some ⟨W5.heap.size, 0, none⟩) 1 1), W5.heap.size ≤ y := fun y hy => (row_base hrowL7 y hy).1
        have hk08 := K5.out.trans (hk57.trans hk8 (fun y hy => .inr (hF8 y hy))) (FSub.refl _ _)
        have HX8 := Lib.hid (hk8.heap hX7 (fun hm => by have := hF8 _ hm; omega)); have HP8 := Lib.hid (hk8.heap hP7 (fun hm => by have := hF8 _ hm; omega))
        clear hk8 hF8 hrowL7 hrow7 hk7 hk57 hX7 hP7 hrowL hXL hPL
        have HJ := Lib.hid (Join6_any w8 v8 (NM :: TL) 32 ho8.strs (M := 1000) HTS.out.1 (by simp only [List.length_cons]; have := HTS.out.2; omega))
        have HR8 := Lib.hid hr8; have K8 := Lib.hid hk08
        clear hr8 ho8 hk08
        apply wpAnyH_ready (rs := [7])
        · kernel_rfl
        · simp
        apply AllReadyH.cons (hs := AllReadyH.nil)
        · simp only [List.getElem?_toArray]; rfl
        intro K hK
        rw [if_pos (by rfl)]
        refine wp_append_run _ _ 50 rfl _ _ _ _ rfl rfl HR8.out ?_
        refine hK.out _ _ ?_ (fun hHeld => ?_)
        · exact ⟨HX8.out, HP8.out⟩
        clear hK K
        try simp only [Act.put, List.setIfInBounds_toArray, List.set_cons_zero, List.set_cons_succ]
        apply wpAnyH_ready (rs := [8])
        · kernel_rfl
        · simp
        apply AllReadyH.cons (hs := AllReadyH.nil)
        · simp only [List.getElem?_toArray]; rfl
        intro K hK
        rw [if_pos (by rfl)]
        go_simp
        refine HJ.out.mono ?_; rintro e w9 ⟨rfl, hk9⟩
        have hk09 := K8.out.trans hk9 (FSub.refl _ _)
        have hX9 := hk9.heap HX8.out (by simp); have hP9 := hk9.heap HP8.out (by simp)
        go_wp2_with fail
        refine hK.out _ _ ?_ (fun hHeld => ?_)
        · exact ⟨hX9, hP9⟩
        clear hK K
        try simp only [Act.put, List.setIfInBounds_toArray, List.set_cons_zero, List.set_cons_succ]
        apply wpAnyH_ready (rs := [9])
        · kernel_rfl
        · simp
        apply AllReadyH.cons (hs := AllReadyH.nil)
        · simp only [List.getElem?_toArray]; rfl
        intro K hK
        rw [if_pos (by rfl)]
        go_simp
        refine hK.out _ _ ?_ (fun hHeld => ?_)
        · exact ⟨hX9, hP9⟩
        clear hK K
        try simp only [Act.put, List.setIfInBounds_toArray, List.set_cons_zero, List.set_cons_succ]
        apply wpAnyH_ready (rs := [10])
        · kernel_rfl
        · simp
        apply AllReadyH.cons (hs := AllReadyH.nil)
        · simp only [List.getElem?_toArray]; rfl
        intro K hK
        rw [if_pos (by rfl)]
        go_simp
        refine hK.out _ _ ?_ (fun hHeld => ?_)
        · exact ⟨hX9, hP9⟩
        clear hK K
        try simp only [Act.put, List.setIfInBounds_toArray, List.set_cons_zero, List.set_cons_succ]
        refine wpAnyH_done (by kernel_rfl) ?_ _
        refine NoPanic.normal ?_
        go_wp2_with fail
        go_ret2
        exact ⟨by rw [HRS.out]; rfl, hk09⟩
      case k6r =>
        intro K hK
        rw [if_pos (by rfl)]
        go_simp
        refine (HWD.out _ G5d.out T5d.out hN5).mono ?_; rintro e w7 ⟨v7, rfl, hrow7, hk7⟩
        have hk57 : Keeps [] W5 w7 := hk7.undrew
        have hX7 := hk57.heap HX5.out (by simp); have hP7 := hk57.heap HP5.out (by simp)
        have hB7 : B < w7.heap.size := lt_of_block hX7
        have hP77 : P < w7.heap.size := lt_of_block hP7
        go_wp2_with fail
        refine hK.out _ _ ?_ (fun hHeld => ?_)
        · exact ⟨hX7, hP7⟩
        clear hK K
        try simp only [Act.put, List.setIfInBounds_toArray, List.set_cons_zero, List.set_cons_succ]
        have hrowL : RowW w7.heap.size (w7.alloc (.cells #[.string (bs NM)] 9)) (.slice (some ⟨w7.heap.size, 0, none⟩) 1 1) [NM] := World.ownsRow_lit (base := w7.heap.size) (e := 9) (size := 1) w7 #[.string (bs NM)] 1 (Nat.le_refl _) (by decide) rfl
        have hkL : Keeps [] w7 (w7.alloc (.cells #[.string (bs NM)] 9)) := (Keeps.refl [] w7).alloc _
        have hXL := hkL.heap hX7 (by simp); have hPL := hkL.heap hP7 (by simp)
        have hrow7L := row_old hrow7 hkL (by simp)
        apply wpAnyH_ready (rs := [2])
        · kernel_rfl
        · simp
        apply AllReadyH.cons (hs := AllReadyH.nil)
        · simp only [List.getElem?_toArray]; rfl
        intro K hK
        rw [if_pos (by rfl)]
        go_simp
        generalize w7.alloc (.cells #[.string (bs NM)] 9) = W6 at *
        refine hK.out _ _ ?_ (fun hHeld => ?_)
        · exact ⟨hXL, hPL⟩
        clear hK K
        try simp only [Act.put, List.setIfInBounds_toArray, List.set_cons_zero, List.set_cons_succ]
        obtain ⟨v8, w8, hr8, ho8, hk8⟩ := append_row W6 w7.heap.size hkL.size _ [NM] hrowL (by simp) v7 TL hrow7L (by have := HTS.out.2; omega) hTL0
        have hF8 : ∀ y ∈ own (.slice (some ⟨w7.heap.size, 0, none⟩) 1 1), w7.heap.size ≤ y := fun y hy => (row_base hrowL y hy).1
        have hk08 := K5.out.trans ((hk57.trans hkL (FSub.refl _ _)).trans hk8 (fun y hy => .inr (by have := hF8 y hy; have := hk57.size; omega))) (FSub.refl _ _)
        have HX8 := Lib.hid (hk8.heap hXL (fun hm => by have := hF8 _ hm; omega)); have HP8 := Lib.hid (hk8.heap hPL (fun hm => by have := hF8 _ hm; omega))
        clear hk8 hF8 hrow7L hrow7 hk7 hk57 hX7 hP7 hrowL hXL hPL hkL
        have HJ := Lib.hid (Join6_any w8 v8 (NM :: TL) 32 ho8.strs (M := 1000) HTS.out.1 (by simp only [List.length_cons]; have := HTS.out.2; omega))
        have HR8 := Lib.hid hr8; have K8 := Lib.hid hk08
        clear hr8 ho8 hk08
        apply wpAnyH_ready (rs := [7])
        · kernel_rfl
        · simp
        apply AllReadyH.cons (hs := AllReadyH.nil)
        · simp only [List.getElem?_toArray]; rfl
        intro K hK
        rw [if_pos (by rfl)]
        refine wp_append_run _ _ 50 rfl _ _ _ _ rfl rfl HR8.out ?_
        refine hK.out _ _ ?_ (fun hHeld => ?_)
        · exact ⟨HX8.out, HP8.out⟩
        clear hK K
        try simp only [Act.put, List.setIfInBounds_toArray, List.set_cons_zero, List.set_cons_succ]
        apply wpAnyH_ready (rs := [8])
        · kernel_rfl
        · simp
        apply AllReadyH.cons (hs := AllReadyH.nil)
        · simp only [List.getElem?_toArray]; rfl
        intro K hK
        rw [if_pos (by rfl)]
        go_simp
        refine HJ.out.mono ?_; rintro e w9 ⟨rfl, hk9⟩
        have hk09 := K8.out.trans hk9 (FSub.refl _ _)
        have hX9 := hk9.heap HX8.out (by simp); have hP9 := hk9.heap HP8.out (by simp)
        go_wp2_with fail
        refine hK.out _ _ ?_ (fun hHeld => ?_)
        · exact ⟨hX9, hP9⟩
        clear hK K
        try simp only [Act.put, List.setIfInBounds_toArray, List.set_cons_zero, List.set_cons_succ]
        apply wpAnyH_ready (rs := [9])
        · kernel_rfl
        · simp
        apply AllReadyH.cons (hs := AllReadyH.nil)
        · simp only [List.getElem?_toArray]; rfl
        intro K hK
        rw [if_pos (by rfl)]
        go_simp
        refine hK.out _ _ ?_ (fun hHeld => ?_)
        · exact ⟨hX9, hP9⟩
        clear hK K
        try simp only [Act.put, List.setIfInBounds_toArray, List.set_cons_zero, List.set_cons_succ]
        apply wpAnyH_ready (rs := [10])
        · kernel_rfl
        · simp
        apply AllReadyH.cons (hs := AllReadyH.nil)
        · simp only [List.getElem?_toArray]; rfl
        intro K hK
        rw [if_pos (by rfl)]
        go_simp
        refine hK.out _ _ ?_ (fun hHeld => ?_)
        · exact ⟨hX9, hP9⟩
        clear hK K
        try simp only [Act.put, List.setIfInBounds_toArray, List.set_cons_zero, List.set_cons_succ]
        refine wpAnyH_done (by kernel_rfl) ?_ _
        refine NoPanic.normal ?_
        go_wp2_with fail
        go_ret2
        exact ⟨by rw [HRS.out]; rfl, hk09⟩
end Go.Proofs.YtiljdehhjiahdaaGreatDoor
