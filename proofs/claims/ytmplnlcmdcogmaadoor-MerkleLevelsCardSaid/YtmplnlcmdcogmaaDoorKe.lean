/- Trees over sums, in lanes: the leaves, all ways to change two of them about, and what is asked of them. No conditions: definitions and lemmas. -/
import Derived.Test.YtmplnlcmdcogmaaDoorKd
namespace Go.Lane
open Go.Sha

/-! The same, typed so that the kernel takes few steps. -/
def t1F (m kw e f g h w : Nat) : Nat :=
  Nat.add (Nat.add (Nat.add (Nat.add h (Nat.xor (Nat.xor (rotP m e 6) (rotP m e 11)) (rotP m e 25))) (Nat.xor (Nat.land e f) (Nat.land (Nat.xor m e) g))) kw) w
def t2F (m a b c : Nat) : Nat :=
  Nat.add (Nat.xor (Nat.xor (rotP m a 2) (rotP m a 13)) (rotP m a 22)) (Nat.xor (Nat.xor (Nat.land a b) (Nat.land a c)) (Nat.land b c))
noncomputable def runF (m one : Nat) (ks : List Nat) : Nat → Nat → Nat → Nat → Nat → Nat → Nat → Nat → Nat → Nat → Nat → Nat → Nat → Nat → Nat → Nat → Nat → Nat → Nat → Nat → Nat → Nat → Nat → Nat → S8 :=
  @List.rec Nat (fun _ => Nat → Nat → Nat → Nat → Nat → Nat → Nat → Nat → Nat → Nat → Nat → Nat → Nat → Nat → Nat → Nat → Nat → Nat → Nat → Nat → Nat → Nat → Nat → Nat → S8)
    (fun a b c d e f g h _ _ _ _ _ _ _ _ _ _ _ _ _ _ _ _ => ⟨a, b, c, d, e, f, g, h⟩)
    (fun k _ ih a b c d e f g h w0 w1 w2 w3 w4 w5 w6 w7 w8 w9 w10 w11 w12 w13 w14 w15 => ih (Nat.land (Nat.add (t1F m (Nat.mul one k) e f g h w0) (t2F m a b c)) m) a b c (Nat.land (Nat.add d (t1F m (Nat.mul one k) e f g h w0)) m) e f g w1 w2 w3 w4 w5 w6 w7 w8 w9 w10 w11 w12 w13 w14 w15 (nextW m w0 w1 w9 w14)) ks
theorem runF_cons (m one k : Nat) (ks : List Nat) (a b c d e f g h w0 w1 w2 w3 w4 w5 w6 w7 w8 w9 w10 w11 w12 w13 w14 w15 : Nat) : runF m one (k :: ks) a b c d e f g h w0 w1 w2 w3 w4 w5 w6 w7 w8 w9 w10 w11 w12 w13 w14 w15 = runF m one ks (Nat.land (Nat.add (t1F m (Nat.mul one k) e f g h w0) (t2F m a b c)) m) a b c (Nat.land (Nat.add d (t1F m (Nat.mul one k) e f g h w0)) m) e f g w1 w2 w3 w4 w5 w6 w7 w8 w9 w10 w11 w12 w13 w14 w15 (nextW m w0 w1 w9 w14) := by delta runF; rfl
theorem runP_cons (m one k : Nat) (ks : List Nat) (s : S8) (w0 w1 w2 w3 w4 w5 w6 w7 w8 w9 w10 w11 w12 w13 w14 w15 : Nat) : runP m one (k :: ks) s [w0, w1, w2, w3, w4, w5, w6, w7, w8, w9, w10, w11, w12, w13, w14, w15] = runP m one ks (stepP m (Nat.mul one k) s w0) [w1, w2, w3, w4, w5, w6, w7, w8, w9, w10, w11, w12, w13, w14, w15, nextW m w0 w1 w9 w14] := by rw [runP]
theorem runP_nil (m one : Nat) (s : S8) (w : List Nat) : runP m one [] s w = s := by unfold runP; rfl
theorem runF_eq (m one : Nat) : ∀ (ks : List Nat) (s : S8) (w0 w1 w2 w3 w4 w5 w6 w7 w8 w9 w10 w11 w12 w13 w14 w15 : Nat), runF m one ks s.a s.b s.c s.d s.e s.f s.g s.h w0 w1 w2 w3 w4 w5 w6 w7 w8 w9 w10 w11 w12 w13 w14 w15 = runP m one ks s [w0, w1, w2, w3, w4, w5, w6, w7, w8, w9, w10, w11, w12, w13, w14, w15]
  | [], s, _, _, _, _, _, _, _, _, _, _, _, _, _, _, _, _ => by rw [runP_nil]; rfl
  | k :: ks, s, w0, w1, w2, w3, w4, w5, w6, w7, w8, w9, w10, w11, w12, w13, w14, w15 => by
    rw [runF_cons, runP_cons, ← runF_eq m one ks (stepP m (Nat.mul one k) s w0)]
    rfl
noncomputable def mixF (m one : Nat) (s : S8) (w0 w1 w2 w3 w4 w5 w6 w7 w8 w9 w10 w11 w12 w13 w14 w15 : Nat) : S8 := addP m s (runF m one KK s.a s.b s.c s.d s.e s.f s.g s.h w0 w1 w2 w3 w4 w5 w6 w7 w8 w9 w10 w11 w12 w13 w14 w15)
noncomputable def pairF (m one : Nat) (x y : S8) : S8 :=
  mixF m one (mixF m one (ivP one) (Nat.land (Nat.add (Nat.mul one 16777216) (shrP m x.a 8)) m) (cat24 m x.a x.b) (cat24 m x.b x.c) (cat24 m x.c x.d) (cat24 m x.d x.e) (cat24 m x.e x.f) (cat24 m x.f x.g) (cat24 m x.g x.h) (cat24 m x.h y.a) (cat24 m y.a y.b) (cat24 m y.b y.c) (cat24 m y.c y.d) (cat24 m y.d y.e) (cat24 m y.e y.f) (cat24 m y.f y.g) (cat24 m y.g y.h)) (Nat.land (Nat.add (Nat.mul y.h 16777216) (Nat.mul one 8388608)) m) (Nat.mul one 0) (Nat.mul one 0) (Nat.mul one 0) (Nat.mul one 0) (Nat.mul one 0) (Nat.mul one 0) (Nat.mul one 0) (Nat.mul one 0) (Nat.mul one 0) (Nat.mul one 0) (Nat.mul one 0) (Nat.mul one 0) (Nat.mul one 0) (Nat.mul one 0) (Nat.mul one 520)
theorem mixF_eq (m one : Nat) (s : S8) (w0 w1 w2 w3 w4 w5 w6 w7 w8 w9 w10 w11 w12 w13 w14 w15 : Nat) : mixF m one s w0 w1 w2 w3 w4 w5 w6 w7 w8 w9 w10 w11 w12 w13 w14 w15 = mixP m one s [w0, w1, w2, w3, w4, w5, w6, w7, w8, w9, w10, w11, w12, w13, w14, w15] := by
  unfold mixF mixP
  rw [runF_eq]
theorem pairF_eq (m one : Nat) (x y : S8) : pairF m one x y = pairP m one x y := by
  unfold pairF pairP blkA blkB
  rw [mixF_eq, mixF_eq]
def TA : Nat := 0x201278710000000075f8e0fe000000001e3ecb320000000085224a5c00000000195f58bc00000000797427cf000000003bf9c81c0000000053304f5e0000000011e1f55800000000906c5d2400000000fa61e3de000000002215e8ac00000000db3426e800000000319d204b000000003639618e0000000050370e360000000059b9463800000000541232e200000000587bae7200000000aed9f5e8000000002ee788370000000060174fe300000000eb397f6500000000ebd20c4100000000b8a7fa770000000043799a4d0000000013b70359000000001321e1ca00000000474f2af400000000d8f7720b00000000b3fe2f9b00000000bb9a1a4700000000774e33e800000000b894c5010000000067e9c12500000000b35d970800000000b56093760000000067a88a2d0000000006b6b40900000000cc08d38800000000f431a7f400000000d877a56700000000c493f6f1000000002ed34834000000000298d122000000003b2b7c6e000000009f49173800000000a1f386a000000000fe251e4d00000000f09a7a120000000067ebbd3700000000c87479cd00000000b4c43b50000000002ecd8a6b0000000040d88127000000009f1afa4d000000004f35212d00000000583c7dfb00000000fcf0a6c700000000b413f47d0000000096a296d2
def TB : Nat := 0xbb98506f000000005d8f56d400000000659377fb000000000186b205000000006d6b7b36000000008368051f00000000231cae70000000003fd4bcd200000000223f4c710000000085cae72200000000c3439589000000004e2b871c0000000078068d280000000093d0584b0000000090314d0f00000000b4952b5900000000773b642b00000000aa3f8edc000000008805519c00000000dedf5808000000002518190a00000000e73cb0390000000053d3485b00000000d4a3983100000000eb1a802d0000000050e0cb19000000007a7d1d3d0000000091757e8c000000007544e9c700000000d76b8e0400000000d5354b6300000000cf5d03dc0000000078c3e22a000000004be1934e00000000c3684fcb00000000f364a8e300000000c87f00c600000000c9a9749e000000005e023805000000002726102f000000007862c05a000000004d893efd0000000046685f76000000003ad2d93b00000000906dcfc100000000e25e2f28000000006c45e2c000000000ecb061b300000000d034dcf500000000954169ae000000000daa02ba00000000656e7e3a00000000bf245bd7000000007d28455400000000d4d31a3800000000c124cba70000000012f9ad20000000007b3055d90000000000dd13e20000000013ee2fe60000000024f285c6
def TC : Nat := 0xcb2eb26a0000000066a452cf00000000d1dfcf1700000000a3e0a1ac00000000335c95e000000000e7b8e3e900000000b678d3f3000000000b39abde00000000b6be1cec00000000073a430f00000000f4784c89000000002a48189e00000000d269b6c800000000d3aa878e00000000eb7ce28900000000654148670000000087af5d240000000067d9f9ea000000003542d2170000000017cc0d9a000000006ab539cb00000000dcb0064600000000c197003a00000000b36b4f820000000069cd0c6800000000f37f6ce2000000001b3f85c70000000023c934ff00000000ce4338ca000000008289b3ee00000000ae8d0df000000000ccf22a8c00000000ba021f5200000000d94625d1000000008da63c9600000000b09f1ef30000000045433e4800000000c611eef800000000a3cd418700000000b4e667050000000044c40ef100000000846208db00000000b44f0c7700000000bbfc7316000000000892cb5300000000a6235e2700000000da0d9b4700000000c46a03860000000089c8479400000000595d12d8000000009aadd05d00000000d6bd8db40000000027623e3c000000006659ad4c0000000091f41598000000003134e82f0000000036492c9500000000946554400000000074b6fba800000000c845b2ee000000007bee93c3
def TD : Nat := 0xb0f726a90000000043a316f1000000003c903f8b000000000ac023bf000000008343825a00000000d5ade9c500000000038f9f4f00000000f2fe118000000000fd1f0de8000000004d04fe17000000003bf321d00000000079738c95000000007172322c000000002e07d51b00000000d9746826000000004fafada50000000078ec16fb000000000c39d6330000000066295396000000002c1bba0c00000000b20331df0000000023d65745000000006be3e81c00000000cbbb061a00000000721cb9fe000000002b5cbcbf00000000b69f03ca000000004047d69600000000bd43c5ca00000000ebc5d41e000000001e7ad307000000008b315c3b00000000a92fce520000000031254ba800000000772bbef700000000af3f2c3600000000648cb02e00000000f47ef5ff000000009f15ba5a00000000442b987e00000000f447d20700000000d80db16f00000000ca88120c00000000cde45c6900000000a73992fc000000003eaf13f5000000005f1a19cf000000001621277900000000120c85d60000000070e69a4c000000008e091e860000000002e8027d00000000775a8fcf00000000f443533c00000000eeed411700000000f50f17c800000000f1fe79ba0000000032a571e100000000deea8dd900000000141af81d000000000f8a3091
def TE : Nat := 0x7fd0407c000000001b85eccc00000000d855ad4a00000000b8cc6f4b000000007ae6f30400000000bc9d0cf9000000006d6b9d7a0000000031cc5ae8000000007146d259000000006750759200000000084f04c5000000006c081e2300000000e5372b650000000006fe3e1d000000003ca4af990000000008972b5c00000000eb99d8780000000011cda71c00000000bd01087b00000000fffe9fc6000000001040f218000000006d411aa4000000006f6966750000000005e1ae2c000000002cd8470c000000006954f13e0000000047bd97c40000000057e9caee000000001c26432b0000000020c35822000000004f42cbc100000000b42324160000000021c8c8e1000000004e97a2110000000081209c9f00000000be29f300000000006a3f834600000000cc335f2900000000b2f2e33a00000000baeca2ea00000000ba15d33900000000ca065c9000000000b8bc89f5000000003a36a3d4000000005b9f493e0000000004bd4450000000002db1e92900000000858ba72500000000015d65ca0000000000920031000000002d0d8bca00000000f454b2b000000000b8d823d000000000f921b19d000000004e5bc89b00000000f716425700000000f4ec7bd9000000000a134b1b00000000b26e4eed00000000e858df4e0000000057f0daa3
def TF : Nat := 0x314098a00000000a065342d00000000f0de82a200000000f19c90be0000000037b4a7e6000000006f4f3fad00000000dcf9b37800000000217bcea0000000004877c27b00000000cef226620000000072c7af2b00000000ac2f241500000000756d0789000000004396fc32000000006ffc62130000000090de162a00000000d318561c0000000046634361000000006c47765a0000000007e6caed0000000046e3ba830000000011410b1a00000000467b648f00000000ed7d8f6300000000de5d595a000000009bb4604d000000007fa8661300000000d9ce5a29000000007300ce3800000000d465236400000000ac1f693b0000000098d4189e0000000052ce67c0000000005ac9a69700000000d74cd528000000007e28cca1000000007f2c82710000000050d1bfaa000000006f53d916000000008d9dea1000000000cef1fb93000000007405986f0000000034fe69b600000000fde8b39b00000000a4c9badb0000000024147eba00000000195c6a9f000000008b2eccb8000000007d9a2c2e0000000057d7252300000000dafdf2a200000000c42ff29e000000000b57dd6500000000c81fa839000000001eb9bbd600000000c79fed9a00000000bef3dffa000000006f76942200000000de34957100000000c549a58b000000005dc5b87e
def TG : Nat := 0x4418e31f0000000065543eef00000000942b047a0000000088fc5f0c00000000fa7b89d7000000002a1e1d7800000000f25919ae0000000008dea7e20000000029ec519f000000009aeadb850000000068e3f33600000000bf77da1900000000001d34830000000093e318670000000099d092e10000000029ba338300000000e058787c000000007fd9f66700000000e3cadbf600000000c8011cfc000000006c269aee000000006eb2202d000000000791a8be00000000240cc63a000000004b48eb1400000000ca4104ae00000000e1f6547200000000e5fcf94e000000007406157e00000000a429ab7c0000000064d76ab50000000083b460c8000000008557d23e00000000b680fe2500000000664f9185000000005ab51a510000000094de5d5800000000f31169ed0000000090449606000000001229cd1d000000005756497400000000233d76c300000000828827b9000000001449067b0000000027b791b400000000cb878262000000004966ca0d0000000018a6498600000000c73c9ecb00000000d626d2a3000000002360240a00000000093458be00000000f7f79dd30000000034e83821000000006a8cbfc00000000013f5943a000000007579f22900000000bbb71fd7000000007cac8408000000007970bb9600000000410b7863
def TH : Nat := 0x40ab74a6000000006f8e49cd0000000050beb9c2000000002316a9fa000000006907570a00000000483681880000000053d17686000000007869348a000000009040213c00000000a2ec909d000000000a35b486000000009dfd920c000000005f601c03000000007d33552400000000f12aa1dd00000000a360a78900000000e46bb46e000000002ffd31a30000000079813bbe0000000080fe0dd400000000907c894c0000000063815f1a0000000005de12300000000002c7309900000000cfee429e00000000844374a4000000009d838305000000007e648ca600000000a433891f00000000b7ea6b1f00000000e080658700000000da346d0300000000ea236e5d000000006f50e5cc000000002b4b41760000000061d276a000000000f971c8f00000000001904012000000002f32499500000000ff302b0600000000137c167300000000fdb936a20000000074e68849000000001603b90d00000000127a7fe700000000aae90509000000002105b19600000000c97282da000000005e33d83b00000000990241e20000000042fe922e00000000b98a23d4000000003f12631500000000b4dfdcb7000000009956a3fd000000006acb8e3d000000003ff546a400000000fa167a5d00000000c9c5177f00000000645bc8d2000000000a09cfc7

def lw (T i : Nat) : Nat := Nat.land (Nat.shiftRight T (Nat.mul 64 i)) 4294967295
/-- The leaves; the last one is of 'other'. -/
def leafT (i : Nat) : S8 := ⟨lw TA i, lw TB i, lw TC i, lw TD i, lw TE i, lw TF i, lw TG i, lw TH i⟩
def z8 : S8 := ⟨0, 0, 0, 0, 0, 0, 0, 0⟩
def upG (pf : S8 → S8 → S8) : List S8 → List S8
  | [] => []
  | [x] => [x]
  | x :: y :: r => pf x y :: upG pf r
def topG (pf : S8 → S8 → S8) : Nat → List S8 → List S8
  | 0, l => l
  | k + 1, x :: y :: r => topG pf k (upG pf (x :: y :: r))
  | _ + 1, l => l
/-- Two places changed about. -/
def perm (a b p : Nat) : Nat := cond (Nat.beq p a) b (cond (Nat.beq p b) a p)
def lay (x y : Nat) : Nat := Nat.add x (Nat.shiftLeft y 64)
noncomputable def packF (f : Nat → Nat → Nat) (L : List (Nat × Nat)) : Nat := @List.rec (Nat × Nat) (fun _ => Nat) 0 (fun ab _ ih => lay (f ab.1 ab.2) ih) L
theorem packF_cons (f : Nat → Nat → Nat) (ab : Nat × Nat) (r : List (Nat × Nat)) : packF f (ab :: r) = lay (f ab.1 ab.2) (packF f r) := by delta packF; rfl
theorem ln_lay0 (x y : Nat) (hx : x < 18446744073709551616) : ln (lay x y) 0 = x := by
  show (x + y <<< 64) / 2 ^ (64 * 0) % 18446744073709551616 = x
  rw [Nat.shiftLeft_eq]
  simp
  omega
theorem ln_layS (x y t : Nat) (hx : x < 18446744073709551616) : ln (lay x y) (t + 1) = ln y t := by
  show (x + y <<< 64) / 2 ^ (64 * (t + 1)) % 18446744073709551616 = _
  rw [Nat.shiftLeft_eq, show 64 * (t + 1) = 64 + 64 * t by omega, Nat.pow_add, ← Nat.div_div_eq_div_mul, Nat.add_mul_div_right _ _ (by decide), Nat.div_eq_of_lt hx, Nat.zero_add]
  rfl
theorem ln_packF (f : Nat → Nat → Nat) (hf : ∀ a b, f a b < 18446744073709551616) : ∀ (L : List (Nat × Nat)) (t : Nat), ln (packF f L) t = (L[t]?.map fun ab => f ab.1 ab.2).getD 0
  | [], t => by
    show 0 / 2 ^ (64 * t) % 18446744073709551616 = _
    rw [Nat.zero_div]
    rfl
  | ab :: r, 0 => by rw [packF_cons, ln_lay0 _ _ (hf _ _)]; rfl
  | ab :: r, t + 1 => by rw [packF_cons, ln_layS _ _ _ (hf _ _), ln_packF f hf r t, List.getElem?_cons_succ]
noncomputable def packW (T : Nat) (L : List (Nat × Nat)) (p : Nat) : Nat := packF (fun a b => lw T (perm a b p)) L
noncomputable def packS (L : List (Nat × Nat)) (p : Nat) : S8 := ⟨packW TA L p, packW TB L p, packW TC L p, packW TD L p, packW TE L p, packW TF L p, packW TG L p, packW TH L p⟩
noncomputable def onesL (L : List (Nat × Nat)) : Nat := packF (fun _ _ => 1) L
noncomputable def topW (L : List (Nat × Nat)) (n : Nat) : Nat := ((topG (pairF (Nat.mul (onesL L) 4294967295) (onesL L)) 6 ((List.range n).map (packS L))).headD z8).a
noncomputable def base (n : Nat) : Nat := ((topG (pairF 4294967295 1) 6 ((List.range n).map leafT)).headD z8).a
/-- No lane ends as the leaves in order do. -/
def noneIs (b : Nat) : List (Nat × Nat) → Nat → Bool
  | [], _ => true
  | _ :: r, X => cond (Nat.beq (Nat.land X 18446744073709551615) b) false (noneIs b r (Nat.shiftRight X 64))
noncomputable def chk (n : Nat) (L : List (Nat × Nat)) : Bool := noneIs (base n) L (topW L n)
/-- The pairs with a first place from lo on, so many of them. -/
def prs (n lo : Nat) : Nat → List (Nat × Nat)
  | 0 => []
  | k + 1 => ((List.range n).filterMap fun b => cond (Nat.ble b lo) none (some (lo, b))) ++ (lo, 60) :: prs n (lo + 1) k

theorem lw_lt (T i : Nat) : lw T i < 4294967296 := and_lt _ _ (by omega)
theorem leafT_okw (i : Nat) : Ok (leafT i) := ⟨lw_lt _ _, lw_lt _ _, lw_lt _ _, lw_lt _ _, lw_lt _ _, lw_lt _ _, lw_lt _ _, lw_lt _ _⟩
/-- Two nodes are the same. -/
def eq8 (x y : S8) : Bool := Nat.beq x.a y.a && Nat.beq x.b y.b && Nat.beq x.c y.c && Nat.beq x.d y.d && Nat.beq x.e y.e && Nat.beq x.f y.f && Nat.beq x.g y.g && Nat.beq x.h y.h
theorem eq8_eq {x y : S8} (h : eq8 x y = true) : x = y := by
  obtain ⟨xa, xb, xc, xd, xe, xf, xg, xh⟩ := x
  obtain ⟨ya, yb, yc, yd, ye, yf, yg, yh⟩ := y
  simp only [eq8, Bool.and_eq_true, Nat.beq_eq] at h
  obtain ⟨⟨⟨⟨⟨⟨⟨h1, h2⟩, h3⟩, h4⟩, h5⟩, h6⟩, h7⟩, h8⟩ := h
  subst h1 h2 h3 h4 h5 h6 h7 h8
  rfl
set_option maxRecDepth 1000000 in
theorem leaves_all : ((List.range 60).all fun i => eq8 (leafT i) (leafS i)) = true := by decide +kernel
set_option maxRecDepth 1000000 in
theorem other_is : eq8 (leafT 60) otherS = true := by decide +kernel
theorem leafT_eq (i : Nat) (h : i < 60) : leafT i = leafS i := eq8_eq (List.all_eq_true.1 leaves_all i (List.mem_range.2 h))
/-- The bytes of a node. -/
def bts (x : S8) : List Int := wordsB x.li
/-- The leaves' bytes are the document's. -/
def lfL (i : Nat) : List Int := if i < 60 then leafL [(i : Int)] else leafL [111, 116, 104, 101, 114]
theorem lfL_eq (i : Nat) (h : i ≤ 60) : lfL i = bts (leafT i) := by
  unfold lfL bts
  by_cases h1 : i < 60
  · rw [if_pos h1, leafT_eq i h1, (leaf_eq i (by omega)).1]
  · have : i = 60 := by omega
    subst this
    rw [if_neg (by omega), eq8_eq other_is, other_eq.1]

/-- Trees, lane by lane, for whatever function of two neighbours. -/
theorem up_lane (f g : S8 → S8 → S8) (t : Nat) (hfg : ∀ x y, Fit x → Fit y → Fit (f x y) ∧ (f x y).lane t = g (x.lane t) (y.lane t)) : ∀ P : List S8, (∀ x ∈ P, Fit x) → (∀ x ∈ upG f P, Fit x) ∧ (upG f P).map (S8.lane · t) = upG g (P.map (S8.lane · t))
  | [], h => ⟨fun x hx => by simp [upG] at hx, rfl⟩
  | [x], h => ⟨fun y hy => h y (by simpa [upG] using hy), rfl⟩
  | x :: y :: r, h => by
    obtain ⟨F, e⟩ := hfg x y (h x (by simp)) (h y (by simp))
    obtain ⟨ih1, ih2⟩ := up_lane f g t hfg r (fun z hz => h z (by simp [hz]))
    refine ⟨fun z hz => ?_, ?_⟩
    · simp only [upG, List.mem_cons] at hz
      rcases hz with rfl | hz
      · exact F
      · exact ih1 z hz
    · simp only [upG, List.map_cons]
      rw [e, ih2]
theorem topG_cons (f : S8 → S8 → S8) (k : Nat) (x y : S8) (r : List S8) : topG f (k + 1) (x :: y :: r) = topG f k (upG f (x :: y :: r)) := rfl
theorem top_lane (f g : S8 → S8 → S8) (t : Nat) (hfg : ∀ x y, Fit x → Fit y → Fit (f x y) ∧ (f x y).lane t = g (x.lane t) (y.lane t)) : ∀ (k : Nat) (P : List S8), (∀ x ∈ P, Fit x) → (topG f k P).map (S8.lane · t) = topG g k (P.map (S8.lane · t))
  | 0, P, _ => rfl
  | k + 1, [], _ => rfl
  | k + 1, [x], _ => rfl
  | k + 1, x :: y :: r, h => by
    obtain ⟨h1, h2⟩ := up_lane f g t hfg (x :: y :: r) h
    have ih := top_lane f g t hfg k (upG f (x :: y :: r)) h1
    rw [topG_cons, ih, h2, List.map_cons, List.map_cons, topG_cons]
/-- .. and in bytes. -/
theorem up_bytes (g : S8 → S8 → S8) (hg : ∀ x y, Ok x → Ok y → pairL (bts x) (bts y) = bts (g x y) ∧ Ok (g x y)) : ∀ l : List S8, (∀ x ∈ l, Ok x) → (∀ x ∈ upG g l, Ok x) ∧ upL (l.map bts) = (upG g l).map bts
  | [], h => ⟨fun x hx => by simp [upG] at hx, rfl⟩
  | [x], h => ⟨fun y hy => h y (by simpa [upG] using hy), rfl⟩
  | x :: y :: r, h => by
    obtain ⟨e, O⟩ := hg x y (h x (by simp)) (h y (by simp))
    obtain ⟨ih1, ih2⟩ := up_bytes g hg r (fun z hz => h z (by simp [hz]))
    refine ⟨fun z hz => ?_, ?_⟩
    · simp only [upG, List.mem_cons] at hz
      rcases hz with rfl | hz
      · exact O
      · exact ih1 z hz
    · simp only [upG, List.map_cons, upL]
      rw [e, ih2]
theorem upG_length (pf : S8 → S8 → S8) : ∀ l : List S8, (upG pf l).length = (l.length + 1) / 2
  | [] => rfl
  | [x] => by simp [upG]
  | x :: y :: r => by simp only [upG, List.length_cons, upG_length pf r]; omega
theorem top_bytes (g : S8 → S8 → S8) (hg : ∀ x y, Ok x → Ok y → pairL (bts x) (bts y) = bts (g x y) ∧ Ok (g x y)) : ∀ (k : Nat) (l : List S8), (∀ x ∈ l, Ok x) → l.length ≤ 2 ^ k → topL (l.map bts) = (topG g k l).map bts ∧ ∀ x ∈ topG g k l, Ok x
  | 0, l, h, hl => by
    rw [topL_small _ (by simpa using hl)]
    exact ⟨rfl, h⟩
  | k + 1, [], h, _ => by
    rw [topL_small _ (by simp)]
    exact ⟨rfl, h⟩
  | k + 1, [x], h, _ => by
    rw [topL_small _ (by simp)]
    exact ⟨rfl, h⟩
  | k + 1, x :: y :: r, h, hl => by
    obtain ⟨h1, h2⟩ := up_bytes g hg (x :: y :: r) h
    rw [topL_great _ (by simp), h2, topG_cons]
    exact top_bytes g hg k (upG g (x :: y :: r)) h1 (by
      rw [upG_length]
      rw [Nat.pow_succ] at hl
      omega)
theorem topG_pos (pf : S8 → S8 → S8) : ∀ (k : Nat) (l : List S8), 0 < l.length → 0 < (topG pf k l).length
  | 0, l, h => h
  | k + 1, [], h => by simp at h
  | k + 1, [x], _ => by simp [topG]
  | k + 1, x :: y :: r, _ => by rw [topG_cons]; exact topG_pos pf k _ (by rw [upG_length]; simp)
/-- The top's first word. -/
def hd0 (l : List S8) : Nat := (l.headD z8).a
theorem hd0_cons (x : S8) (r : List S8) : hd0 (x :: r) = x.a := rfl
theorem root_g (g : S8 → S8 → S8) (hg : ∀ x y, Ok x → Ok y → pairL (bts x) (bts y) = bts (g x y) ∧ Ok (g x y)) (l : List S8) (h : ∀ x ∈ l, Ok x) (h0 : 0 < l.length) (hl : l.length ≤ 64) : ∃ r, Ok r ∧ rootL (l.map bts) = bts r ∧ r.a = hd0 (topG g 6 l) := by
  obtain ⟨e, O⟩ := top_bytes g hg 6 l h hl
  have hp := topG_pos g 6 l h0
  unfold rootL
  rw [if_neg (by rw [List.length_map]; omega), e]
  generalize topG g 6 l = L at *
  match L, hp with
  | x :: r, _ => exact ⟨x, O x (by simp), by simp, rfl⟩
theorem hd0_lane (t : Nat) (L : List S8) (h : 0 < L.length) : ln (hd0 L) t = hd0 (L.map (S8.lane · t)) := by
  match L, h with
  | x :: r, _ => rfl
theorem top_word (f g : S8 → S8 → S8) (t : Nat) (hfg : ∀ x y, Fit x → Fit y → Fit (f x y) ∧ (f x y).lane t = g (x.lane t) (y.lane t)) (P : List S8) (h : ∀ x ∈ P, Fit x) (h0 : 0 < P.length) : ln (hd0 (topG f 6 P)) t = hd0 (topG g 6 (P.map (S8.lane · t))) := by
  rw [hd0_lane t _ (topG_pos f 6 P h0), top_lane f g t hfg 6 P h]
/-- The first word of the top. -/
def top0 (l : List S8) : Nat := hd0 (topG (pairP 4294967295 1) 6 l)
theorem root_bytes (l : List S8) (h : ∀ x ∈ l, Ok x) (h0 : 0 < l.length) (hl : l.length ≤ 64) : ∃ r, Ok r ∧ rootL (l.map bts) = bts r ∧ r.a = top0 l :=
  root_g (pairP 4294967295 1) (fun x y X Y => pair_eq x y X Y) l h h0 hl
/-- What the words of the packed leaves are, lane by lane. -/
theorem msk_ones (L : List (Nat × Nat)) : Msk (Nat.mul (onesL L) 4294967295) (onesL L) := by
  have h1 : ∀ t, ln (onesL L) t = (L[t]?.map fun _ => 1).getD 0 := fun t => ln_packF (fun _ _ => 1) (fun _ _ => by omega) L t
  have h2 : ∀ t, ln (onesL L) t ≤ 1 := fun t => by rw [h1]; cases L[t]? <;> simp
  refine ⟨fun t => ?_⟩
  rw [ln_mul (onesL L) 4294967295 (fun t => by have := h2 t; omega)]
  have := h2 t
  by_cases h : ln (onesL L) t = 1
  · exact Or.inl ⟨by rw [h], h⟩
  · have h' : ln (onesL L) t = 0 := by omega
    exact Or.inr ⟨by rw [h'], h'⟩
theorem ones_at (L : List (Nat × Nat)) (t : Nat) (h : t < L.length) : ln (onesL L) t = 1 := by
  have h1 : ln (onesL L) t = (L[t]?.map fun _ => 1).getD 0 := ln_packF (fun _ _ => 1) (fun _ _ => by omega) L t
  rw [h1, List.getElem?_eq_getElem h]; rfl
theorem packW_lane (T : Nat) (L : List (Nat × Nat)) (p t : Nat) (h : t < L.length) : ln (packW T L p) t = lw T (perm (L[t]'h).1 (L[t]'h).2 p) := by
  unfold packW
  rw [ln_packF _ (fun a b => Nat.lt_of_lt_of_le (lw_lt T (perm a b p)) (by omega)), List.getElem?_eq_getElem h]; rfl
theorem packW_sm (T : Nat) (L : List (Nat × Nat)) (p : Nat) : Sm 4294967296 (packW T L p) := fun t => by
  unfold packW
  rw [ln_packF _ (fun a b => Nat.lt_of_lt_of_le (lw_lt T (perm a b p)) (by omega))]
  cases L[t]? with
  | none => simp
  | some ab => exact lw_lt _ _
theorem packS_fit (L : List (Nat × Nat)) (p : Nat) : Fit (packS L p) := ⟨packW_sm _ _ _, packW_sm _ _ _, packW_sm _ _ _, packW_sm _ _ _, packW_sm _ _ _, packW_sm _ _ _, packW_sm _ _ _, packW_sm _ _ _⟩
theorem packS_lane (L : List (Nat × Nat)) (p t : Nat) (h : t < L.length) : (packS L p).lane t = leafT (perm (L[t]'h).1 (L[t]'h).2 p) := by
  unfold packS S8.lane leafT
  simp only [packW_lane _ L p t h]
theorem pairF_fun (m one : Nat) : pairF m one = pairP m one := funext fun x => funext fun y => pairF_eq m one x y
theorem topW_lane (L : List (Nat × Nat)) (n t : Nat) (h : t < L.length) (h0 : 0 < n) : ln (topW L n) t = top0 ((List.range n).map fun p => leafT (perm (L[t]'h).1 (L[t]'h).2 p)) := by
  have hm : ln (Nat.mul (onesL L) 4294967295) t = 4294967295 := by
    rcases (msk_ones L).m t with h' | h'
    · exact h'.1
    · have := ones_at L t h; omega
  have e := top_word (pairP (Nat.mul (onesL L) 4294967295) (onesL L)) (pairP 4294967295 1) t (fun x y X Y => ln_pair (msk_ones L) t hm (ones_at L t h) x y X Y) ((List.range n).map (packS L)) (fun x hx => by
    obtain ⟨p, _, rfl⟩ := List.mem_map.1 hx
    exact packS_fit L p) (by simpa using h0)
  rw [List.map_map] at e
  have e2 : ((fun x => S8.lane x t) ∘ packS L) = fun p => leafT (perm (L[t]'h).1 (L[t]'h).2 p) := funext fun p => packS_lane L p t h
  rw [e2] at e
  unfold topW top0
  rw [pairF_fun]
  exact e
theorem noneIs_sound (b : Nat) : ∀ (L : List (Nat × Nat)) (X : Nat), noneIs b L X = true → ∀ t, t < L.length → ln X t ≠ b
  | [], _, _, t, h => by simp at h
  | _ :: r, X, hX, t, h => by
    unfold noneIs at hX
    cases hb : Nat.beq (Nat.land X 18446744073709551615) b with
    | true => rw [hb] at hX; cases hX
    | false =>
      rw [hb] at hX
      have hne := Nat.ne_of_beq_eq_false hb
      cases t with
      | zero =>
        intro e
        apply hne
        rw [← e]
        unfold ln
        rw [show Nat.land X 18446744073709551615 = X % 18446744073709551616 from Nat.and_two_pow_sub_one_eq_mod X 64]
        simp
      | succ t =>
        have ih := noneIs_sound b r (Nat.shiftRight X 64) hX t (by simpa using h)
        intro e
        apply ih
        rw [← e]
        unfold ln
        show (X >>> 64) / 2 ^ (64 * t) % _ = _
        rw [Nat.shiftRight_eq_div_pow, Nat.div_div_eq_div_mul, ← Nat.pow_add, show 64 + 64 * t = 64 * (t + 1) by omega]
theorem base_eq (n : Nat) : base n = top0 ((List.range n).map leafT) := by unfold base top0 hd0; rw [pairF_fun]
theorem chk_sound (n : Nat) (L : List (Nat × Nat)) (h0 : 0 < n) (h : chk n L = true) (ab : Nat × Nat) (hab : ab ∈ L) : top0 ((List.range n).map fun p => leafT (perm ab.1 ab.2 p)) ≠ top0 ((List.range n).map leafT) := by
  obtain ⟨t, ht, rfl⟩ := List.getElem_of_mem hab
  rw [← topW_lane L n t ht h0, ← base_eq]
  exact noneIs_sound _ L _ h t ht
theorem mem_prs (n : Nat) : ∀ (k lo a b : Nat), lo ≤ a → a < lo + k → (a < b ∧ b < n ∨ b = 60) → (a, b) ∈ prs n lo k
  | 0, lo, a, b, h1, h2, _ => by omega
  | k + 1, lo, a, b, h1, h2, h3 => by
    unfold prs
    by_cases e : a = lo
    · subst e
      rcases h3 with ⟨h4, h5⟩ | rfl
      · refine List.mem_append_left _ (List.mem_filterMap.2 ⟨b, List.mem_range.2 h5, ?_⟩)
        have : Nat.ble b a = false := by
          cases hb : Nat.ble b a with
          | false => rfl
          | true => exact absurd (Nat.le_of_ble_eq_true hb) (by omega)
        rw [this]; rfl
      · exact List.mem_append_right _ (List.mem_cons_self)
    · exact List.mem_append_right _ (List.mem_cons_of_mem _ (mem_prs n k (lo + 1) a b (by omega) (by omega) h3))
end Go.Lane
